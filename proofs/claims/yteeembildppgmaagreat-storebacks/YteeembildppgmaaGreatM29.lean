/- A part of it: SMast SMof. -/
import Derived.Test.YteeembildppgmaaGreatM0
import Derived.Test.YteeembildppgmaaGreatM28
namespace Go.Proofs.YteeembildppgmaaGreat
open Go.RowKit
set_option linter.unusedVariables false
set_option linter.unusedSimpArgs false
set_option maxHeartbeats 400000 in
set_option maxRecDepth 100000 in
theorem fields_any (w : World) (f : Nat) : Calls Tryz.prog 103 #[.pointer (some ⟨f, 0, none⟩)] w fun e w' => e = .returned (.slice (some ⟨w.heap.size, 0, none⟩) 4 4) ∧ w' = (w.drewN 1).alloc (.cells #[.pointer (some ⟨f, 0, none⟩), .pointer (some ⟨f, 1, none⟩), .pointer (some ⟨f, 2, none⟩), .pointer (some ⟨f, 3, none⟩)] 159) := by
 have HBS : Hid (∀ (ρ : Operand → Value) (o : Oper), o.op = .buildSlice 157 4 #[(0, .tmp 5), (1, .tmp 8), (2, .tmp 11), (3, .tmp 14)] → ρ (.tmp 5) = .pointer (some ⟨f, 0, none⟩) → ρ (.tmp 8) = .pointer (some ⟨f, 1, none⟩) → ρ (.tmp 11) = .pointer (some ⟨f, 2, none⟩) → ρ (.tmp 14) = .pointer (some ⟨f, 3, none⟩) →
  (execOp ρ o).run Tryz.prog (w.drewN 1) = .ok (.value (.slice (some ⟨w.heap.size, 0, none⟩) 4 4)) ((w.drewN 1).alloc (.cells #[.pointer (some ⟨f, 0, none⟩), .pointer (some ⟨f, 1, none⟩), .pointer (some ⟨f, 2, none⟩), .pointer (some ⟨f, 3, none⟩)] 159))) := fun ρ o h1 h2 h3 h4 h5 => by
  unfold execOp
  simp only [h1, List.map_toArray, List.map_cons, List.map_nil, h2, h3, h4, h5]
  kernel_rfl
 go_enter Tryz.func103, Tryz.ntmps103
 go_wp2_with fail
 refine wp_region_held_drew (S := fun _ => True) (by kernel_rfl) trivial (fun hH => ?_)
 refine take_to 0 3 (.pointer (some ⟨f, 0, none⟩)) rfl (by kernel_rfl) (by kernel_rfl) (by kernel_rfl) (fun _ _ _ h => h) rfl (by rfl) (fun w hw => by rfl) hH ?_
 simp only [Act.put, zA, zB, zC]
 refine take_to 1 4 (.pointer (some ⟨f, 0, none⟩)) rfl (by kernel_rfl) (by kernel_rfl) (by kernel_rfl) (fun _ _ _ h => h) rfl (by rfl) (fun w hw => by rfl) hH ?_
 simp only [Act.put, zA, zB, zC]
 refine take_to 2 5 (.pointer (some ⟨f, 0, none⟩)) rfl (by kernel_rfl) (by kernel_rfl) (by kernel_rfl) (fun _ _ _ h => h) rfl (by rfl) (fun w hw => by rfl) hH ?_
 simp only [Act.put, zA, zB, zC]
 refine take_to 3 6 (.pointer (some ⟨f, 0, none⟩)) rfl (by kernel_rfl) (by kernel_rfl) (by kernel_rfl) (fun _ _ _ h => h) rfl (by rfl) (fun w hw => by rfl) hH ?_
 simp only [Act.put, zA, zB, zC]
 refine take_to 4 7 (.pointer (some ⟨f, 0, none⟩)) rfl (by kernel_rfl) (by kernel_rfl) (by kernel_rfl) (fun _ _ _ h => h) rfl (by rfl) (fun w hw => by rfl) hH ?_
 simp only [Act.put, zA, zB, zC]
 refine take_to 5 8 (.pointer (some ⟨f, 1, none⟩)) rfl (by kernel_rfl) (by kernel_rfl) (by kernel_rfl) (fun _ _ _ h => h) rfl (by rfl) (fun w hw => by rfl) hH ?_
 simp only [Act.put, zA, zB, zC]
 refine take_to 6 9 (.pointer (some ⟨f, 0, none⟩)) rfl (by kernel_rfl) (by kernel_rfl) (by kernel_rfl) (fun _ _ _ h => h) rfl (by rfl) (fun w hw => by rfl) hH ?_
 simp only [Act.put, zA, zB, zC]
 refine take_to 7 10 (.pointer (some ⟨f, 0, none⟩)) rfl (by kernel_rfl) (by kernel_rfl) (by kernel_rfl) (fun _ _ _ h => h) rfl (by rfl) (fun w hw => by rfl) hH ?_
 simp only [Act.put, zA, zB, zC]
 refine take_to 8 11 (.pointer (some ⟨f, 2, none⟩)) rfl (by kernel_rfl) (by kernel_rfl) (by kernel_rfl) (fun _ _ _ h => h) rfl (by rfl) (fun w hw => by rfl) hH ?_
 simp only [Act.put, zA, zB, zC]
 refine take_to 9 12 (.pointer (some ⟨f, 0, none⟩)) rfl (by kernel_rfl) (by kernel_rfl) (by kernel_rfl) (fun _ _ _ h => h) rfl (by rfl) (fun w hw => by rfl) hH ?_
 simp only [Act.put, zA, zB, zC]
 refine take_to 10 13 (.pointer (some ⟨f, 0, none⟩)) rfl (by kernel_rfl) (by kernel_rfl) (by kernel_rfl) (fun _ _ _ h => h) rfl (by rfl) (fun w hw => by rfl) hH ?_
 simp only [Act.put, zA, zB, zC]
 refine take_to 11 14 (.pointer (some ⟨f, 3, none⟩)) rfl (by kernel_rfl) (by kernel_rfl) (by kernel_rfl) (fun _ _ _ h => h) rfl (by rfl) (fun w hw => by rfl) hH ?_
 simp only [Act.put, zA, zB, zC]
 refine step_to 12 15 (.slice (some ⟨w.heap.size, 0, none⟩) 4 4) _ rfl (by kernel_rfl) rfl (by rfl) (HBS.out _ _ rfl rfl rfl rfl rfl) trivial ?_
 simp only [Act.put, zA, zB, zC]
 refine step_to 13 2 (.slice (some ⟨w.heap.size, 0, none⟩) 4 4) _ rfl (by kernel_rfl) rfl (by rfl) (rfl) trivial ?_
 simp only [Act.put, zA, zB, zC]
 refine wpAnyH_done (by kernel_rfl) ?_ _
 go_wp2
 go_ret
 exact ⟨rfl, rfl⟩

def mkSec (v0 v1 v2 v3 : Nat) : Nat → List UInt8
 | 0 => zerosN 128
 | 1 => patch (zerosN 128) 0 (be8 v0)
 | 2 => patch (patch (zerosN 128) 0 (be8 v0)) 8 (be8 v1)
 | 3 => patch (patch (patch (zerosN 128) 0 (be8 v0)) 8 (be8 v1)) 16 (be8 v2)
 | _ => patch (patch (patch (patch (zerosN 128) 0 (be8 v0)) 8 (be8 v1)) 16 (be8 v2)) 24 (be8 v3)
theorem length_mkSec (v0 v1 v2 v3 : Nat) : ∀ k, (mkSec v0 v1 v2 v3 k).length = 128 := by
 have z : (zerosN 128).length = 128 := by simp [zerosN]
 have b : ∀ v, (be8 v).length = 8 := length_be8
 have p : ∀ (l : List UInt8) (o v : Nat), l.length = 128 → o + 8 ≤ 128 → (patch l o (be8 v)).length = 128 := fun l o v hl ho => by rw [length_patch _ _ _ (by rw [b, hl]; exact ho)]; exact hl
 have p1 := p _ 0 v0 z (by omega)
 have p2 := p _ 8 v1 p1 (by omega)
 have p3 := p _ 16 v2 p2 (by omega)
 have p4 := p _ 24 v3 p3 (by omega)
 intro k
 match k with
 | 0 => exact z
 | 1 => exact p1
 | 2 => exact p2
 | 3 => exact p3
 | _ + 4 => exact p4
theorem Tryz.enters96 (args : Array Value) (w : World) : (callFunc 96 args).run Tryz.prog w = .ok (.enter 96 args) w := by kernel_rfl
set_option maxHeartbeats 2000000 in
set_option maxRecDepth 100000 in
theorem sector_any (w : World) (v0 v1 v2 v3 : Nat) (b0 : v0 < 4611686018427387904) (b1 : v1 < 4611686018427387904) (b2 : v2 < 4611686018427387904) (b3 : v3 < 4611686018427387904) :
 Calls Tryz.prog 105 #[.agg #[.int .i64 (v0 : Int), .int .i64 (v1 : Int), .int .i64 (v2 : Int), .int .i64 (v3 : Int)]] w fun e w' => ∃ g, e = .returned (.slice (some ⟨g, 0, none⟩) 128 128) ∧ w.heap.size ≤ g ∧ (∃ cur, BlkAt w' g 128 (mkSec v0 v1 v2 v3 4) cur) ∧ Below w.heap.size w w' := by
 obtain ⟨W1, hW1⟩ : ∃ W1, w.alloc (.cells #[.int .i64 (v0 : Int), .int .i64 (v1 : Int), .int .i64 (v2 : Int), .int .i64 (v3 : Int)] 99) = W1 := ⟨_, rfl⟩
 obtain ⟨F, hF⟩ : ∃ F, w.heap.size = F := ⟨_, rfl⟩
 obtain ⟨G, hG⟩ : ∃ G, W1.heap.size = G := ⟨_, rfl⟩
 obtain ⟨W2, hW2⟩ : ∃ W2, W1.alloc (.cells (secCells (zerosN 128)).toArray 5) = W2 := ⟨_, rfl⟩
 obtain ⟨H, hH⟩ : ∃ H, W2.heap.size = H := ⟨_, rfl⟩
 obtain ⟨W3, hW3⟩ : ∃ W3, (W2.drewN 1).alloc (.cells #[.pointer (some ⟨F, 0, none⟩), .pointer (some ⟨F, 1, none⟩), .pointer (some ⟨F, 2, none⟩), .pointer (some ⟨F, 3, none⟩)] 159) = W3 := ⟨_, rfl⟩
 have hmk2 : (Instr.makeSlice 36 (.int .i64 128) (.int .i64 128)).run Tryz.prog (w.alloc (.cells #[.int .i64 (v0 : Int), .int .i64 (v1 : Int), .int .i64 (v2 : Int), .int .i64 (v3 : Int)] 99)) = .ok (.slice (some ⟨G, 0, none⟩) 128 128) W2 := by rw [hW1, ← hW2, ← hG]; exact makeN 128 (by omega) W1
 have HFI := hide (fields_any W2 F)
 rw [hH, hW3, ← hF] at HFI
 have zG : G = F + 1 := by rw [← hG, ← hW1, ← hF]; simp
 have zH : H = F + 2 := by rw [← hH, ← hW2, World.size_alloc, hG, zG]
 have f3 : W3.heap[F]? = some (.cells #[.int .i64 (v0 : Int), .int .i64 (v1 : Int), .int .i64 (v2 : Int), .int .i64 (v3 : Int)] 99 (0, 0)) := by
  have h1 : W1.heap[F]? = some (.cells #[.int .i64 (v0 : Int), .int .i64 (v1 : Int), .int .i64 (v2 : Int), .int .i64 (v3 : Int)] 99 (0, 0)) := by rw [← hW1, ← hF]; exact heap_alloc_new w _
  have h2 : W2.heap[F]? = W1.heap[F]? := by rw [← hW2]; exact Below.heap_alloc _ _ _ (by omega)
  have h3 : W3.heap[F]? = W2.heap[F]? := by rw [← hW3]; exact Below.heap_alloc _ _ _ (by show F < W2.heap.size; omega)
  rw [h3, h2, h1]
 have g3 : W3.heap[G]? = some (.cells (secCells (zerosN 128)).toArray 5 (0, 0)) := by
  have h2 : W2.heap[G]? = some (.cells (secCells (zerosN 128)).toArray 5 (0, 0)) := by rw [← hW2, ← hG]; exact heap_alloc_new W1 _
  have h3 : W3.heap[G]? = W2.heap[G]? := by rw [← hW3]; exact Below.heap_alloc _ _ _ (by show G < W2.heap.size; omega)
  rw [h3, h2]
 have p3 : W3.heap[H]? = some (.cells #[.pointer (some ⟨F, 0, none⟩), .pointer (some ⟨F, 1, none⟩), .pointer (some ⟨F, 2, none⟩), .pointer (some ⟨F, 3, none⟩)] 159 (0, 0)) := by rw [← hW3, ← hH]; exact heap_alloc_new (W2.drewN 1) _
 have B3 : Below F w W3 := by
  rw [← hF, ← hW3, ← hW2, ← hW1]
  exact ((((Below.refl _ w).alloc (Nat.le_refl _) _).alloc (by simp) _).trans (below_drewN _ _ 1)).alloc (by simp; omega) _
 have HS3 := hide (And.intro f3 (And.intro g3 (And.intro p3 B3)))
 have HFG : Hid (¬ F = G) := fun e => by omega
 have HHG : Hid (¬ H = G) := fun e => by omega
 have HZ : Hid (F < G ∧ G < H) := ⟨by omega, by omega⟩
 have hGF : F ≤ G := by omega
 rw [hF]
 have HFE := hide hF
 clear f3 g3 p3 B3 hW1 hW2 hW3 zG zH hF hG hH
 go_enter Tryz.func105, Tryz.ntmps105
 go_wp2_with (first | (go_at_call 103; refine HFI.out.mono ?_; rintro e w' ⟨rfl, hw⟩; have hw := hw.symm; subst hw) | fail)
 rw [HFE.out]
 go_loopw [9] (fun i wr => ∃ k : Nat, k ≤ 4 ∧ i = .int .i64 k ∧ (∃ cur, BlkAt wr G 128 (mkSec v0 v1 v2 v3 k) cur) ∧ wr.heap[F]? = some (.cells #[.int .i64 (v0 : Int), .int .i64 (v1 : Int), .int .i64 (v2 : Int), .int .i64 (v3 : Int)] 99 (0, 0)) ∧ wr.heap[H]? = some (.cells #[.pointer (some ⟨F, 0, none⟩), .pointer (some ⟨F, 1, none⟩), .pointer (some ⟨F, 2, none⟩), .pointer (some ⟨F, 3, none⟩)] 159 (0, 0)) ∧ Below F w wr) (fun i _ => 4 - (intOf i).toNat)
 case atStart =>
  obtain ⟨f3, g3, p3, B3⟩ := HS3.out
  have hz : (zerosN 128).length = 128 := by simp [zerosN]
  exact ⟨0, by omega, rfl, ⟨_, by have := BlkAt.of g3; rw [hz] at this; exact this⟩, f3, p3, B3⟩
 case round =>
  obtain ⟨k, hk, rfl, ⟨cur, hblk⟩, f4, p4, B4⟩ := hrel
  have HBK := hide hblk
  have HF4 := hide f4
  have HP4 := hide p4
  have HB4 := hide B4
  have HFL : Hid (F < wr.heap.size) := (Array.getElem?_eq_some_iff.1 f4).1
  clear hblk B4
  rcases (by omega : k = 0 ∨ k = 1 ∨ k = 2 ∨ k = 3 ∨ k = 4) with rfl | rfl | rfl | rfl | rfl
  · have kH : wr.cell? ⟨H, 0, none⟩ = some (.pointer (some ⟨F, 0, none⟩)) := by rw [cell_of_row wr H 0 _ _ _ p4]; rfl
    have kF : wr.cell? ⟨F, 0, none⟩ = some (.int .i64 (v0 : Int)) := by rw [cell_of_row wr F 0 _ _ _ f4]; rfl
    have HPN := hide (putNumber_any G 0 128 128 v0 128 _ cur (wr.drewN 1) (HBK.out.keep rfl) (by rw [length_mkSec]; omega) (by omega) b0)
    clear f4 p4
    go_wp2_with fail
    refine wp_region_held_drew (S := fun w' => w'.cell? ⟨F, 0, none⟩ = some (.int .i64 (v0 : Int))) (by kernel_rfl) kF (fun hH => ?_)
    refine take_to 0 14 (.slice (some ⟨G, 0, none⟩) 128 128) rfl (by kernel_rfl) (by kernel_rfl) (by kernel_rfl) (fun _ _ _ h => h) rfl (by rfl) (fun w hw => by rfl) hH ?_
    simp only [Act.put, zA, zB, zC]
    refine take_to 1 15 (.int .i64 0) rfl (by kernel_rfl) (by kernel_rfl) (by kernel_rfl) (fun _ _ _ h => h) rfl (by rfl) (fun w hw => by rfl) hH ?_
    simp only [Act.put, zA, zB, zC]
    refine take_to 2 16 (.int .i64 0) rfl (by kernel_rfl) (by kernel_rfl) (by kernel_rfl) (fun _ _ _ h => h) rfl (by rfl) (fun w hw => by kernel_rfl) hH ?_
    simp only [Act.put, zA, zB, zC]
    refine take_to 3 17 (.slice (some ⟨G, 0, none⟩) 128 128) rfl (by kernel_rfl) (by kernel_rfl) (by kernel_rfl) (fun _ _ _ h => h) rfl (by rfl) (fun w hw => by kernel_rfl) hH ?_
    simp only [Act.put, zA, zB, zC]
    refine take_to 4 18 (.pointer (some ⟨F, 0, none⟩)) rfl (by kernel_rfl) (by kernel_rfl) (by kernel_rfl) (fun _ _ _ h => h) rfl (by rfl) (fun w hw => by rfl) hH ?_
    simp only [Act.put, zA, zB, zC]
    refine take_to 5 19 (.pointer (some ⟨F, 0, none⟩)) rfl (by kernel_rfl) (by kernel_rfl) (by kernel_rfl) (fun _ _ _ h => h) rfl (by rfl) (fun w hw => by rfl) hH ?_
    simp only [Act.put, zA, zB, zC]
    refine take_to 6 20 (.int .i64 (v0 : Int)) rfl (by kernel_rfl) (by kernel_rfl) (by kernel_rfl) (fun _ _ _ h => h) rfl (by rfl) (fun w hw => op_load _ _ 3 (.tmp 19) rfl (.pointer (some ⟨F, 0, none⟩)) _ rfl (run_loadAny w F 0 3 _ Tryz.isAgg3 hw)) hH ?_
    simp only [Act.put, zA, zB, zC]
    refine step_call2_to 7 21 96 rfl (by kernel_rfl) rfl (by rfl) (.tmp 17) (.tmp 20) _ rfl _ _ rfl rfl Tryz.enters96 (HPN.out) ?_
    rintro e W5 ⟨rfl, h5, hO5⟩
    have hS5 : W5.cell? ⟨F, 0, none⟩ = some (.int .i64 (v0 : Int)) := (World.cell?_of_block (a := ⟨F, 0, none⟩) (hO5.block F HFL.out (by simpa using HFG.out))).trans kF
    refine ⟨_, rfl, hS5, ?_⟩
    simp only [Act.put, zA, zB, zC]
    refine wpAnyH_done (by kernel_rfl) ?_ _
    have HO5 := hide hO5
    have H5 := hide h5
    clear hH hS5 hO5 h5 kH kF HPN
    go_wp2
    go_roundw
    case rel =>
     refine ⟨1, by omega, rfl, H5.out, (HO5.out.block F HFL.out (by simpa using HFG.out)).trans HF4.out, (HO5.out.block H (Array.getElem?_eq_some_iff.1 HP4.out).1 (by simpa using HHG.out)).trans HP4.out, (HB4.out.trans (below_drewN F wr 1)).trans (HO5.out.below (B := F) (Nat.le_of_lt HFL.out) (fun q hq => by simp at hq; omega))⟩
    case measure => simp [intOf]
  · have kH : wr.cell? ⟨H, 1, none⟩ = some (.pointer (some ⟨F, 1, none⟩)) := by rw [cell_of_row wr H 1 _ _ _ p4]; rfl
    have kF : wr.cell? ⟨F, 1, none⟩ = some (.int .i64 (v1 : Int)) := by rw [cell_of_row wr F 1 _ _ _ f4]; rfl
    have HPN := hide (putNumber_any G 8 120 120 v1 128 _ cur (wr.drewN 1) (HBK.out.keep rfl) (by rw [length_mkSec]; omega) (by omega) b1)
    clear f4 p4
    go_wp2_with fail
    refine wp_region_held_drew (S := fun w' => w'.cell? ⟨F, 1, none⟩ = some (.int .i64 (v1 : Int))) (by kernel_rfl) kF (fun hH => ?_)
    refine take_to 0 14 (.slice (some ⟨G, 0, none⟩) 128 128) rfl (by kernel_rfl) (by kernel_rfl) (by kernel_rfl) (fun _ _ _ h => h) rfl (by rfl) (fun w hw => by rfl) hH ?_
    simp only [Act.put, zA, zB, zC]
    refine take_to 1 15 (.int .i64 1) rfl (by kernel_rfl) (by kernel_rfl) (by kernel_rfl) (fun _ _ _ h => h) rfl (by rfl) (fun w hw => by rfl) hH ?_
    simp only [Act.put, zA, zB, zC]
    refine take_to 2 16 (.int .i64 8) rfl (by kernel_rfl) (by kernel_rfl) (by kernel_rfl) (fun _ _ _ h => h) rfl (by rfl) (fun w hw => by kernel_rfl) hH ?_
    simp only [Act.put, zA, zB, zC]
    refine take_to 3 17 (.slice (some ⟨G, 8, none⟩) 120 120) rfl (by kernel_rfl) (by kernel_rfl) (by kernel_rfl) (fun _ _ _ h => h) rfl (by rfl) (fun w hw => by kernel_rfl) hH ?_
    simp only [Act.put, zA, zB, zC]
    refine take_to 4 18 (.pointer (some ⟨F, 1, none⟩)) rfl (by kernel_rfl) (by kernel_rfl) (by kernel_rfl) (fun _ _ _ h => h) rfl (by rfl) (fun w hw => by rfl) hH ?_
    simp only [Act.put, zA, zB, zC]
    refine take_to 5 19 (.pointer (some ⟨F, 1, none⟩)) rfl (by kernel_rfl) (by kernel_rfl) (by kernel_rfl) (fun _ _ _ h => h) rfl (by rfl) (fun w hw => by rfl) hH ?_
    simp only [Act.put, zA, zB, zC]
    refine take_to 6 20 (.int .i64 (v1 : Int)) rfl (by kernel_rfl) (by kernel_rfl) (by kernel_rfl) (fun _ _ _ h => h) rfl (by rfl) (fun w hw => op_load _ _ 3 (.tmp 19) rfl (.pointer (some ⟨F, 1, none⟩)) _ rfl (run_loadAny w F 1 3 _ Tryz.isAgg3 hw)) hH ?_
    simp only [Act.put, zA, zB, zC]
    refine step_call2_to 7 21 96 rfl (by kernel_rfl) rfl (by rfl) (.tmp 17) (.tmp 20) _ rfl _ _ rfl rfl Tryz.enters96 (HPN.out) ?_
    rintro e W5 ⟨rfl, h5, hO5⟩
    have hS5 : W5.cell? ⟨F, 1, none⟩ = some (.int .i64 (v1 : Int)) := (World.cell?_of_block (a := ⟨F, 1, none⟩) (hO5.block F HFL.out (by simpa using HFG.out))).trans kF
    refine ⟨_, rfl, hS5, ?_⟩
    simp only [Act.put, zA, zB, zC]
    refine wpAnyH_done (by kernel_rfl) ?_ _
    have HO5 := hide hO5
    have H5 := hide h5
    clear hH hS5 hO5 h5 kH kF HPN
    go_wp2
    go_roundw
    case rel =>
     refine ⟨2, by omega, rfl, H5.out, (HO5.out.block F HFL.out (by simpa using HFG.out)).trans HF4.out, (HO5.out.block H (Array.getElem?_eq_some_iff.1 HP4.out).1 (by simpa using HHG.out)).trans HP4.out, (HB4.out.trans (below_drewN F wr 1)).trans (HO5.out.below (B := F) (Nat.le_of_lt HFL.out) (fun q hq => by simp at hq; omega))⟩
    case measure => simp [intOf]
  · have kH : wr.cell? ⟨H, 2, none⟩ = some (.pointer (some ⟨F, 2, none⟩)) := by rw [cell_of_row wr H 2 _ _ _ p4]; rfl
    have kF : wr.cell? ⟨F, 2, none⟩ = some (.int .i64 (v2 : Int)) := by rw [cell_of_row wr F 2 _ _ _ f4]; rfl
    have HPN := hide (putNumber_any G 16 112 112 v2 128 _ cur (wr.drewN 1) (HBK.out.keep rfl) (by rw [length_mkSec]; omega) (by omega) b2)
    clear f4 p4
    go_wp2_with fail
    refine wp_region_held_drew (S := fun w' => w'.cell? ⟨F, 2, none⟩ = some (.int .i64 (v2 : Int))) (by kernel_rfl) kF (fun hH => ?_)
    refine take_to 0 14 (.slice (some ⟨G, 0, none⟩) 128 128) rfl (by kernel_rfl) (by kernel_rfl) (by kernel_rfl) (fun _ _ _ h => h) rfl (by rfl) (fun w hw => by rfl) hH ?_
    simp only [Act.put, zA, zB, zC]
    refine take_to 1 15 (.int .i64 2) rfl (by kernel_rfl) (by kernel_rfl) (by kernel_rfl) (fun _ _ _ h => h) rfl (by rfl) (fun w hw => by rfl) hH ?_
    simp only [Act.put, zA, zB, zC]
    refine take_to 2 16 (.int .i64 16) rfl (by kernel_rfl) (by kernel_rfl) (by kernel_rfl) (fun _ _ _ h => h) rfl (by rfl) (fun w hw => by kernel_rfl) hH ?_
    simp only [Act.put, zA, zB, zC]
    refine take_to 3 17 (.slice (some ⟨G, 16, none⟩) 112 112) rfl (by kernel_rfl) (by kernel_rfl) (by kernel_rfl) (fun _ _ _ h => h) rfl (by rfl) (fun w hw => by kernel_rfl) hH ?_
    simp only [Act.put, zA, zB, zC]
    refine take_to 4 18 (.pointer (some ⟨F, 2, none⟩)) rfl (by kernel_rfl) (by kernel_rfl) (by kernel_rfl) (fun _ _ _ h => h) rfl (by rfl) (fun w hw => by rfl) hH ?_
    simp only [Act.put, zA, zB, zC]
    refine take_to 5 19 (.pointer (some ⟨F, 2, none⟩)) rfl (by kernel_rfl) (by kernel_rfl) (by kernel_rfl) (fun _ _ _ h => h) rfl (by rfl) (fun w hw => by rfl) hH ?_
    simp only [Act.put, zA, zB, zC]
    refine take_to 6 20 (.int .i64 (v2 : Int)) rfl (by kernel_rfl) (by kernel_rfl) (by kernel_rfl) (fun _ _ _ h => h) rfl (by rfl) (fun w hw => op_load _ _ 3 (.tmp 19) rfl (.pointer (some ⟨F, 2, none⟩)) _ rfl (run_loadAny w F 2 3 _ Tryz.isAgg3 hw)) hH ?_
    simp only [Act.put, zA, zB, zC]
    refine step_call2_to 7 21 96 rfl (by kernel_rfl) rfl (by rfl) (.tmp 17) (.tmp 20) _ rfl _ _ rfl rfl Tryz.enters96 (HPN.out) ?_
    rintro e W5 ⟨rfl, h5, hO5⟩
    have hS5 : W5.cell? ⟨F, 2, none⟩ = some (.int .i64 (v2 : Int)) := (World.cell?_of_block (a := ⟨F, 2, none⟩) (hO5.block F HFL.out (by simpa using HFG.out))).trans kF
    refine ⟨_, rfl, hS5, ?_⟩
    simp only [Act.put, zA, zB, zC]
    refine wpAnyH_done (by kernel_rfl) ?_ _
    have HO5 := hide hO5
    have H5 := hide h5
    clear hH hS5 hO5 h5 kH kF HPN
    go_wp2
    go_roundw
    case rel =>
     refine ⟨3, by omega, rfl, H5.out, (HO5.out.block F HFL.out (by simpa using HFG.out)).trans HF4.out, (HO5.out.block H (Array.getElem?_eq_some_iff.1 HP4.out).1 (by simpa using HHG.out)).trans HP4.out, (HB4.out.trans (below_drewN F wr 1)).trans (HO5.out.below (B := F) (Nat.le_of_lt HFL.out) (fun q hq => by simp at hq; omega))⟩
    case measure => simp [intOf]
  · have kH : wr.cell? ⟨H, 3, none⟩ = some (.pointer (some ⟨F, 3, none⟩)) := by rw [cell_of_row wr H 3 _ _ _ p4]; rfl
    have kF : wr.cell? ⟨F, 3, none⟩ = some (.int .i64 (v3 : Int)) := by rw [cell_of_row wr F 3 _ _ _ f4]; rfl
    have HPN := hide (putNumber_any G 24 104 104 v3 128 _ cur (wr.drewN 1) (HBK.out.keep rfl) (by rw [length_mkSec]; omega) (by omega) b3)
    clear f4 p4
    go_wp2_with fail
    refine wp_region_held_drew (S := fun w' => w'.cell? ⟨F, 3, none⟩ = some (.int .i64 (v3 : Int))) (by kernel_rfl) kF (fun hH => ?_)
    refine take_to 0 14 (.slice (some ⟨G, 0, none⟩) 128 128) rfl (by kernel_rfl) (by kernel_rfl) (by kernel_rfl) (fun _ _ _ h => h) rfl (by rfl) (fun w hw => by rfl) hH ?_
    simp only [Act.put, zA, zB, zC]
    refine take_to 1 15 (.int .i64 3) rfl (by kernel_rfl) (by kernel_rfl) (by kernel_rfl) (fun _ _ _ h => h) rfl (by rfl) (fun w hw => by rfl) hH ?_
    simp only [Act.put, zA, zB, zC]
    refine take_to 2 16 (.int .i64 24) rfl (by kernel_rfl) (by kernel_rfl) (by kernel_rfl) (fun _ _ _ h => h) rfl (by rfl) (fun w hw => by kernel_rfl) hH ?_
    simp only [Act.put, zA, zB, zC]
    refine take_to 3 17 (.slice (some ⟨G, 24, none⟩) 104 104) rfl (by kernel_rfl) (by kernel_rfl) (by kernel_rfl) (fun _ _ _ h => h) rfl (by rfl) (fun w hw => by kernel_rfl) hH ?_
    simp only [Act.put, zA, zB, zC]
    refine take_to 4 18 (.pointer (some ⟨F, 3, none⟩)) rfl (by kernel_rfl) (by kernel_rfl) (by kernel_rfl) (fun _ _ _ h => h) rfl (by rfl) (fun w hw => by rfl) hH ?_
    simp only [Act.put, zA, zB, zC]
    refine take_to 5 19 (.pointer (some ⟨F, 3, none⟩)) rfl (by kernel_rfl) (by kernel_rfl) (by kernel_rfl) (fun _ _ _ h => h) rfl (by rfl) (fun w hw => by rfl) hH ?_
    simp only [Act.put, zA, zB, zC]
    refine take_to 6 20 (.int .i64 (v3 : Int)) rfl (by kernel_rfl) (by kernel_rfl) (by kernel_rfl) (fun _ _ _ h => h) rfl (by rfl) (fun w hw => op_load _ _ 3 (.tmp 19) rfl (.pointer (some ⟨F, 3, none⟩)) _ rfl (run_loadAny w F 3 3 _ Tryz.isAgg3 hw)) hH ?_
    simp only [Act.put, zA, zB, zC]
    refine step_call2_to 7 21 96 rfl (by kernel_rfl) rfl (by rfl) (.tmp 17) (.tmp 20) _ rfl _ _ rfl rfl Tryz.enters96 (HPN.out) ?_
    rintro e W5 ⟨rfl, h5, hO5⟩
    have hS5 : W5.cell? ⟨F, 3, none⟩ = some (.int .i64 (v3 : Int)) := (World.cell?_of_block (a := ⟨F, 3, none⟩) (hO5.block F HFL.out (by simpa using HFG.out))).trans kF
    refine ⟨_, rfl, hS5, ?_⟩
    simp only [Act.put, zA, zB, zC]
    refine wpAnyH_done (by kernel_rfl) ?_ _
    have HO5 := hide hO5
    have H5 := hide h5
    clear hH hS5 hO5 h5 kH kF HPN
    go_wp2
    go_roundw
    case rel =>
     refine ⟨4, by omega, rfl, H5.out, (HO5.out.block F HFL.out (by simpa using HFG.out)).trans HF4.out, (HO5.out.block H (Array.getElem?_eq_some_iff.1 HP4.out).1 (by simpa using HHG.out)).trans HP4.out, (HB4.out.trans (below_drewN F wr 1)).trans (HO5.out.below (B := F) (Nat.le_of_lt HFL.out) (fun q hq => by simp at hq; omega))⟩
    case measure => simp [intOf]
  · clear f4 p4
    go_wp2
    go_ret
    exact ⟨G, rfl, hGF, ⟨cur, HBK.out⟩, HB4.out⟩
end Go.Proofs.YteeembildppgmaaGreat
namespace Go.Proofs.YteeembildppgmaaGreat
open Go.RowKit
set_option linter.unusedVariables false
set_option linter.unusedSimpArgs false
def mcells (n0 n1 n2 n3 : Nat) : Nat → Array Value
 | 0 => #[.int .i64 0, .int .i64 0, .int .i64 0, .int .i64 0]
 | 1 => #[.int .i64 (n0 : Int), .int .i64 0, .int .i64 0, .int .i64 0]
 | 2 => #[.int .i64 (n0 : Int), .int .i64 (n1 : Int), .int .i64 0, .int .i64 0]
 | 3 => #[.int .i64 (n0 : Int), .int .i64 (n1 : Int), .int .i64 (n2 : Int), .int .i64 0]
 | _ => #[.int .i64 (n0 : Int), .int .i64 (n1 : Int), .int .i64 (n2 : Int), .int .i64 (n3 : Int)]
theorem Tryz.size99 : (Tryz.prog.info? 99).map (·.size) = some 4 := by kernel_rfl
theorem one4 (a b c d : Int) : (#[Value.int .i64 a, .int .i64 b, .int .i64 c, .int .i64 d] : Array Value).all (·.oneCell') = true := by simp [Value.oneCell']
theorem rng_cut {w : World} {g : Nat} {bs : List UInt8} (h : w.heap[g]? = some (.cells (secCells bs).toArray 5 (0, 0))) (o n : Nat) : w.rangeAt g o (secCells ((bs.drop o).take n)) := fun j v hv => by
 have h1 := (SrcAt.block h).cut o n
 have := h1.2 j v hv
 rw [Addr.add_mid, Nat.zero_add] at this
 exact this
set_option maxHeartbeats 2000000 in
set_option maxRecDepth 100000 in
theorem masterOf_ok (w : World) (g : Nat) (bs : List UInt8) (hl : bs.length = 128) (hb : w.heap[g]? = some (.cells (secCells bs).toArray 5 (0, 0))) (n0 n1 n2 n3 : Nat) (e0 : Enc.beval ((bs.drop 0).take 8) = n0) (e1 : Enc.beval ((bs.drop 8).take 8) = n1) (e2 : Enc.beval ((bs.drop 16).take 8) = n2) (e3 : Enc.beval ((bs.drop 24).take 8) = n3)
 (hn0 : n0 < 4611686018427387904) (hn1 : n1 < 4611686018427387904) (hn2 : n2 < 4611686018427387904) (hn3 : n3 < 4611686018427387904) :
 Calls Tryz.prog 71 #[.slice (some ⟨g, 0, none⟩) 128 128] w fun e w' => (n1 ≤ 1099511627776 ∧ mkSec n0 n1 n2 n3 4 = bs → e = .returned (.agg #[.int .i64 (n0 : Int), .int .i64 (n1 : Int), .int .i64 (n2 : Int), .int .i64 (n3 : Int)])) ∧ (¬ (n1 ≤ 1099511627776 ∧ mkSec n0 n1 n2 n3 4 = bs) → e = .returned (.agg #[.int .i64 0, .int .i64 0, .int .i64 0, .int .i64 0])) ∧ Below w.heap.size w w' := by
 have hgl : g < w.heap.size := (Array.getElem?_eq_some_iff.1 hb).1
 have HRG : Hid (∀ W k, Below w.heap.size w W → W.rangeAt g (8 * k) (secCells ((bs.drop (8 * k)).take 8))) := fun W k hW => rng_cut ((hW.block g hgl).trans hb) _ _
 have HRA : Hid (∀ W, Below w.heap.size w W → W.rangeAt g 0 (secCells bs)) := fun W hW => rng_block ((hW.block g hgl).trans hb)
 have hlk : ∀ k, k < 4 → ((bs.drop (8 * k)).take 8).length = 8 := fun k hk => by rw [List.length_take, List.length_drop]; omega
 obtain ⟨R, hR⟩ : ∃ R, w.heap.size = R := ⟨_, rfl⟩
 obtain ⟨W2, hW2⟩ : ∃ W2, (w.alloc (.cells #[.int .i64 0, .int .i64 0, .int .i64 0, .int .i64 0] 99)).alloc (.cells #[.int .i64 0, .int .i64 0, .int .i64 0, .int .i64 0] 99) = W2 := ⟨_, rfl⟩
 obtain ⟨M, hM⟩ : ∃ M, w.heap.size + 1 = M := ⟨_, rfl⟩
 obtain ⟨H, hH⟩ : ∃ H, W2.heap.size = H := ⟨_, rfl⟩
 obtain ⟨W3, hW3⟩ : ∃ W3, (W2.drewN 1).alloc (.cells #[.pointer (some ⟨M, 0, none⟩), .pointer (some ⟨M, 1, none⟩), .pointer (some ⟨M, 2, none⟩), .pointer (some ⟨M, 3, none⟩)] 159) = W3 := ⟨_, rfl⟩
 have HFI := hide (fields_any W2 M)
 rw [hH, hW3, ← hM, ← hW2] at HFI
 have zH : H = R + 2 := by rw [← hH, ← hW2, ← hR]; simp
 have zM : M = R + 1 := by rw [← hM, hR]
 have r2 : W2.heap[R]? = some (.cells #[.int .i64 0, .int .i64 0, .int .i64 0, .int .i64 0] 99 (0, 0)) := by
  rw [← hW2, ← hR, Below.heap_alloc _ _ _ (by simp)]
  exact heap_alloc_new w _
 have m2 : W2.heap[M]? = some (.cells #[.int .i64 0, .int .i64 0, .int .i64 0, .int .i64 0] 99 (0, 0)) := by
  have := heap_alloc_new (w.alloc (.cells #[.int .i64 0, .int .i64 0, .int .i64 0, .int .i64 0] 99)) (.cells #[.int .i64 0, .int .i64 0, .int .i64 0, .int .i64 0] 99)
  rw [show (w.alloc (.cells #[.int .i64 0, .int .i64 0, .int .i64 0, .int .i64 0] 99)).heap.size = w.heap.size + 1 by simp, hM] at this
  rw [← hW2]
  exact this
 have r3 : W3.heap[R]? = some (.cells #[.int .i64 0, .int .i64 0, .int .i64 0, .int .i64 0] 99 (0, 0)) := by rw [← hW3, Below.heap_alloc _ _ _ (by show R < W2.heap.size; omega)]; exact r2
 have m3 : W3.heap[M]? = some (.cells #[.int .i64 0, .int .i64 0, .int .i64 0, .int .i64 0] 99 (0, 0)) := by rw [← hW3, Below.heap_alloc _ _ _ (by show M < W2.heap.size; omega)]; exact m2
 have p3 : W3.heap[H]? = some (.cells #[.pointer (some ⟨M, 0, none⟩), .pointer (some ⟨M, 1, none⟩), .pointer (some ⟨M, 2, none⟩), .pointer (some ⟨M, 3, none⟩)] 159 (0, 0)) := by rw [← hW3, ← hH]; exact heap_alloc_new (W2.drewN 1) _
 have B3 : Below R w W3 := by
  rw [← hR, ← hW3, ← hW2]
  exact ((((Below.refl _ w).alloc (Nat.le_refl _) _).alloc (by simp) _).trans (below_drewN _ _ 1)).alloc (by simp; omega) _
 have HS3 := hide (And.intro m3 (And.intro p3 (And.intro r3 B3)))
 have HHM : Hid (¬ H = M) := fun e => by omega
 have HRM : Hid (¬ R = M) := fun e => by omega
 have hRM : R ≤ M := by omega
 have HRE := hide hR
 have HME : Hid (R + 1 = M) := zM.symm
 rw [hR] at HRG HRA hgl ⊢
 rw [hR] at HFI
 clear r2 m2 r3 m3 p3 B3 hW2 hW3 hM hH zH zM hb
 have E0 := hide e0
 have E1 := hide e1
 have E2 := hide e2
 have E3 := hide e3
 clear e0 e1 e2 e3
 go_enter Tryz.func71, Tryz.ntmps71
 go_wp2_with (first | (go_at_call 103; refine HFI.out.mono ?_; rintro e w' ⟨rfl, hw⟩; have hw := hw.symm; subst hw) | fail)
 rw [HME.out]
 clear hR
 go_loopw [10] (fun i wr => ∃ k : Nat, k ≤ 4 ∧ i = .int .i64 k ∧ wr.heap[M]? = some (.cells (mcells n0 n1 n2 n3 k) 99 (0, 0)) ∧ wr.heap[H]? = some (.cells #[.pointer (some ⟨M, 0, none⟩), .pointer (some ⟨M, 1, none⟩), .pointer (some ⟨M, 2, none⟩), .pointer (some ⟨M, 3, none⟩)] 159 (0, 0)) ∧ wr.heap[R]? = some (.cells #[.int .i64 0, .int .i64 0, .int .i64 0, .int .i64 0] 99 (0, 0)) ∧ Below R w wr) (fun i _ => 4 - (intOf i).toNat)
 case atStart =>
  obtain ⟨m3, p3, r3, B3⟩ := HS3.out
  exact ⟨0, by omega, rfl, m3, p3, r3, B3⟩
 case round =>
  obtain ⟨k, hk, rfl, m4, p4, r4, B4⟩ := hrel
  have HB4 := hide B4
  have HP4 := hide p4
  have HR4 := hide r4
  clear B4 r4
  rcases (by omega : k = 0 ∨ k = 1 ∨ k = 2 ∨ k = 3 ∨ k = 4) with rfl | rfl | rfl | rfl | rfl
  all_goals simp only [mcells] at m4
  · have kH : wr.cell? ⟨H, 0, none⟩ = some (.pointer (some ⟨M, 0, none⟩)) := by rw [cell_of_row wr H 0 _ _ _ p4]; rfl
    have kM : wr.cell? ⟨M, 0, none⟩ = some (.int .i64 0) := by rw [cell_of_row wr M 0 _ _ _ m4]; rfl
    have kf : wr.frozen? ⟨M, 0, none⟩ = false := frozen_of_row wr M 0 _ _ m4
    have HN := hide (snumber_ok wr g 0 128 128 ((bs.drop 0).take 8) (hlk 0 (by omega)) (by omega) (by omega) (by omega) (HRG.out wr 0 HB4.out) (by have := hn0; have := E0.out; omega))
    rw [E0.out] at HN
    have HM4 := hide m4
    clear m4 p4
    go_wp2_with (go_at_call 104; refine HN.out.mono ?_; rintro e w' ⟨rfl, hw⟩; have hw := hw.symm; subst hw)
    go_roundw
    case rel =>
     refine ⟨1, by omega, rfl, by rw [heap_setCell_same wr M 0 _ _ _ HM4.out]; rfl, (heap_setCell_other wr _ H _ HHM.out).trans HP4.out, (heap_setCell_other wr _ R _ HRM.out).trans HR4.out, HB4.out.trans (((Off.refl [M] wr).setCell ⟨M, 0, none⟩ _ (.inl (by simp))).below (B := R) (Nat.le_of_lt (Array.getElem?_eq_some_iff.1 HR4.out).1) (fun q hq => by simp at hq; omega))⟩
    case measure => simp [intOf]
  · have kH : wr.cell? ⟨H, 1, none⟩ = some (.pointer (some ⟨M, 1, none⟩)) := by rw [cell_of_row wr H 1 _ _ _ p4]; rfl
    have kM : wr.cell? ⟨M, 1, none⟩ = some (.int .i64 0) := by rw [cell_of_row wr M 1 _ _ _ m4]; rfl
    have kf : wr.frozen? ⟨M, 1, none⟩ = false := frozen_of_row wr M 1 _ _ m4
    have HN := hide (snumber_ok wr g 8 120 120 ((bs.drop 8).take 8) (hlk 1 (by omega)) (by omega) (by omega) (by omega) (HRG.out wr 1 HB4.out) (by have := hn1; have := E1.out; omega))
    rw [E1.out] at HN
    have HM4 := hide m4
    clear m4 p4
    go_wp2_with (go_at_call 104; refine HN.out.mono ?_; rintro e w' ⟨rfl, hw⟩; have hw := hw.symm; subst hw)
    go_roundw
    case rel =>
     refine ⟨2, by omega, rfl, by rw [heap_setCell_same wr M 1 _ _ _ HM4.out]; rfl, (heap_setCell_other wr _ H _ HHM.out).trans HP4.out, (heap_setCell_other wr _ R _ HRM.out).trans HR4.out, HB4.out.trans (((Off.refl [M] wr).setCell ⟨M, 1, none⟩ _ (.inl (by simp))).below (B := R) (Nat.le_of_lt (Array.getElem?_eq_some_iff.1 HR4.out).1) (fun q hq => by simp at hq; omega))⟩
    case measure => simp [intOf]
  · have kH : wr.cell? ⟨H, 2, none⟩ = some (.pointer (some ⟨M, 2, none⟩)) := by rw [cell_of_row wr H 2 _ _ _ p4]; rfl
    have kM : wr.cell? ⟨M, 2, none⟩ = some (.int .i64 0) := by rw [cell_of_row wr M 2 _ _ _ m4]; rfl
    have kf : wr.frozen? ⟨M, 2, none⟩ = false := frozen_of_row wr M 2 _ _ m4
    have HN := hide (snumber_ok wr g 16 112 112 ((bs.drop 16).take 8) (hlk 2 (by omega)) (by omega) (by omega) (by omega) (HRG.out wr 2 HB4.out) (by have := hn2; have := E2.out; omega))
    rw [E2.out] at HN
    have HM4 := hide m4
    clear m4 p4
    go_wp2_with (go_at_call 104; refine HN.out.mono ?_; rintro e w' ⟨rfl, hw⟩; have hw := hw.symm; subst hw)
    go_roundw
    case rel =>
     refine ⟨3, by omega, rfl, by rw [heap_setCell_same wr M 2 _ _ _ HM4.out]; rfl, (heap_setCell_other wr _ H _ HHM.out).trans HP4.out, (heap_setCell_other wr _ R _ HRM.out).trans HR4.out, HB4.out.trans (((Off.refl [M] wr).setCell ⟨M, 2, none⟩ _ (.inl (by simp))).below (B := R) (Nat.le_of_lt (Array.getElem?_eq_some_iff.1 HR4.out).1) (fun q hq => by simp at hq; omega))⟩
    case measure => simp [intOf]
  · have kH : wr.cell? ⟨H, 3, none⟩ = some (.pointer (some ⟨M, 3, none⟩)) := by rw [cell_of_row wr H 3 _ _ _ p4]; rfl
    have kM : wr.cell? ⟨M, 3, none⟩ = some (.int .i64 0) := by rw [cell_of_row wr M 3 _ _ _ m4]; rfl
    have kf : wr.frozen? ⟨M, 3, none⟩ = false := frozen_of_row wr M 3 _ _ m4
    have HN := hide (snumber_ok wr g 24 104 104 ((bs.drop 24).take 8) (hlk 3 (by omega)) (by omega) (by omega) (by omega) (HRG.out wr 3 HB4.out) (by have := hn3; have := E3.out; omega))
    rw [E3.out] at HN
    have HM4 := hide m4
    clear m4 p4
    go_wp2_with (go_at_call 104; refine HN.out.mono ?_; rintro e w' ⟨rfl, hw⟩; have hw := hw.symm; subst hw)
    go_roundw
    case rel =>
     refine ⟨4, by omega, rfl, by rw [heap_setCell_same wr M 3 _ _ _ HM4.out]; rfl, (heap_setCell_other wr _ H _ HHM.out).trans HP4.out, (heap_setCell_other wr _ R _ HRM.out).trans HR4.out, HB4.out.trans (((Off.refl [M] wr).setCell ⟨M, 3, none⟩ _ (.inl (by simp))).below (B := R) (Nat.le_of_lt (Array.getElem?_eq_some_iff.1 HR4.out).1) (fun q hq => by simp at hq; omega))⟩
    case measure => simp [intOf]
  · have k1 : wr.cell? ⟨M, 1, none⟩ = some (.int .i64 (n1 : Int)) := by rw [cell_of_row wr M 1 _ _ _ m4]; rfl
    have HM4 := hide m4
    by_cases hbig : n1 ≤ 1099511627776
    · have HSE := hide (sector_any wr n0 n1 n2 n3 hn0 hn1 hn2 hn3)
      have k0 : wr.cell? ⟨M, 0, none⟩ = some (.int .i64 (n0 : Int)) := by rw [cell_of_row wr M 0 _ _ _ m4]; rfl
      have k2 : wr.cell? ⟨M, 2, none⟩ = some (.int .i64 (n2 : Int)) := by rw [cell_of_row wr M 2 _ _ _ m4]; rfl
      have k3 : wr.cell? ⟨M, 3, none⟩ = some (.int .i64 (n3 : Int)) := by rw [cell_of_row wr M 3 _ _ _ m4]; rfl
      have hMl : M < wr.heap.size := (Array.getElem?_eq_some_iff.1 m4).1
      have hRl : R < wr.heap.size := (Array.getElem?_eq_some_iff.1 HR4.out).1
      clear m4 p4
      by_cases heq : mkSec n0 n1 n2 n3 4 = bs
      · go_wp2_with (first
         | (go_at_call 105; refine HSE.out.mono ?_; rintro e w5 ⟨g5, rfl, hg5, ⟨cur5, hb5⟩, hB5⟩
            have HE0 := equal_any w5 g5 0 128 128 g 0 128 128 _ bs (length_mkSec _ _ _ _ 4) hl (fun j v hv => by have := hb5.src.2 j v hv; rwa [Addr.add_mid] at this) (HRA.out w5 (HB4.out.trans (hB5.mono (Nat.le_of_lt hRl))))
            rw [decide_eq_true heq] at HE0
            have HE := hide HE0
            have l0 := (hB5.cell (p := ⟨M, 0, none⟩) hMl).trans k0
            have l1 := (hB5.cell (p := ⟨M, 1, none⟩) hMl).trans k1
            have l2 := (hB5.cell (p := ⟨M, 2, none⟩) hMl).trans k2
            have l3 := (hB5.cell (p := ⟨M, 3, none⟩) hMl).trans k3
            have HR5 := hide ((hB5.block R hRl).trans HR4.out)
            have HB5 := hide hB5
            clear hB5 hb5 HE0)
         | (go_at_call 35; refine HE.out.mono ?_; rintro e w' ⟨rfl, hw⟩; have hw := hw.symm; subst hw)
         | (refine wpList_store_row rfl 99 _ _ rfl R #[.int .i64 (n0 : Int), .int .i64 (n1 : Int), .int .i64 (n2 : Int), .int .i64 (n3 : Int)] rfl rfl 99 #[.int .i64 0, .int .i64 0, .int .i64 0, .int .i64 0] HR5.out (Tryz.size99) rfl (one4 _ _ _ _) ?_))
        refine bodyPost_ret (v := .agg #[.int .i64 (n0 : Int), .int .i64 (n1 : Int), .int .i64 (n2 : Int), .int .i64 (n3 : Int)]) (results_cell_row Tryz.results71 _ _ R 99 #[.int .i64 (n0 : Int), .int .i64 (n1 : Int), .int .i64 (n2 : Int), .int .i64 (n3 : Int)] (0, 0) _ rfl (setRow_heap _ _ _ _ _ _ HR5.out) Tryz.underlying99 rfl Tryz.size99) rfl ?_
        exact ⟨fun _ => rfl, fun hne => absurd ⟨hbig, heq⟩ hne, below_setRow (HB4.out.trans (HB5.out.mono (Nat.le_of_lt hRl))) (Nat.le_refl _) _⟩
      · go_wp2_with (first
         | (go_at_call 105; refine HSE.out.mono ?_; rintro e w5 ⟨g5, rfl, hg5, ⟨cur5, hb5⟩, hB5⟩
            have HE0 := equal_any w5 g5 0 128 128 g 0 128 128 _ bs (length_mkSec _ _ _ _ 4) hl (fun j v hv => by have := hb5.src.2 j v hv; rwa [Addr.add_mid] at this) (HRA.out w5 (HB4.out.trans (hB5.mono (Nat.le_of_lt hRl))))
            rw [decide_eq_false heq] at HE0
            have HE := hide HE0
            have HR5 := hide ((hB5.block R hRl).trans HR4.out)
            have HB5 := hide hB5
            clear hB5 hb5 HE0)
         | (go_at_call 35; refine HE.out.mono ?_; rintro e w' ⟨rfl, hw⟩; have hw := hw.symm; subst hw)
         | (refine wpList_store_row rfl 99 _ _ rfl R #[.int .i64 0, .int .i64 0, .int .i64 0, .int .i64 0] rfl rfl 99 #[.int .i64 0, .int .i64 0, .int .i64 0, .int .i64 0] HR5.out (Tryz.size99) rfl (one4 0 0 0 0) ?_))
        refine bodyPost_ret (v := .agg #[.int .i64 0, .int .i64 0, .int .i64 0, .int .i64 0]) (results_cell_row Tryz.results71 _ _ R 99 #[.int .i64 0, .int .i64 0, .int .i64 0, .int .i64 0] (0, 0) _ rfl (setRow_heap _ _ _ _ _ _ HR5.out) Tryz.underlying99 rfl Tryz.size99) rfl ?_
        exact ⟨fun he => absurd he.2 heq, fun _ => rfl, below_setRow (HB4.out.trans (HB5.out.mono (Nat.le_of_lt hRl))) (Nat.le_refl _) _⟩
    · clear m4 p4
      go_wp2_with (refine wpList_store_row rfl 99 _ _ rfl R #[.int .i64 0, .int .i64 0, .int .i64 0, .int .i64 0] rfl rfl 99 #[.int .i64 0, .int .i64 0, .int .i64 0, .int .i64 0] HR4.out (Tryz.size99) rfl (one4 0 0 0 0) ?_)
      refine bodyPost_ret (v := .agg #[.int .i64 0, .int .i64 0, .int .i64 0, .int .i64 0]) (results_cell_row Tryz.results71 _ _ R 99 #[.int .i64 0, .int .i64 0, .int .i64 0, .int .i64 0] (0, 0) _ rfl (setRow_heap _ _ _ _ _ _ HR4.out) Tryz.underlying99 rfl Tryz.size99) rfl ?_
      exact ⟨rfl, below_setRow HB4.out (Nat.le_refl _) _⟩
end Go.Proofs.YteeembildppgmaaGreat
