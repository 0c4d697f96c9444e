/- soilAll: a list of dirty pages is taken into a map. -/
import Derived.Test.YtpjppolbkdnkaaaLines
import Derived.Deep.CutBlock
import Derived.Deep.DeepCutAuto
namespace Go.Proofs.Ytpjppolbkdnkaaa
open Go.RowKit
set_option linter.unusedVariables false
set_option linter.unusedSimpArgs false

/-- A slice of dirty pages. -/
def DirtsAt (w : World) (a : Option Addr) (D : List (Int × Int)) : Prop := D.length ≤ 1000000 ∧ ∀ (i : Nat) (x : Int × Int), D[i]? = some x → In64 x.1 ∧ In64 x.2 ∧ ∃ b o, a = some ⟨b, o, none⟩ ∧ b < w.heap.size ∧ w.rangeAt b (o + i * 2) [.int .i64 x.1, .int .i64 x.2]
theorem Try.size36n : (Try.prog.info? 36).map (·.size) = some 2 := by kernel_rfl
def soil1 (f : Int → Option Int) (x : Int × Int) : Int → Option Int := if (f x.1).isSome = false ∨ x.2 < (f x.1).getD 0 then updI f x.1 x.2 else f
def soil (f : Int → Option Int) (D : List (Int × Int)) : Int → Option Int := D.foldl soil1 f
theorem soil_snoc (f : Int → Option Int) (D : List (Int × Int)) (x : Int × Int) : soil f (D ++ [x]) = soil1 (soil f D) x := by unfold soil; rw [List.foldl_append]; rfl
set_option maxHeartbeats 2000000 in
set_option maxRecDepth 100000 in
theorem soil_any (w : World) (R bd n : Nat) (f : Int → Option Int) (a : Option Addr) (cap : Nat) (D : List (Int × Int)) (hn : n ≤ 1000000) (hR : w.cell? ⟨R, 2, none⟩ = some (.map (some bd))) (hRb : R ≠ bd) (hM : MapI w bd n f) (hD : DirtsAt w a D) (hDb : ∀ b o, a = some ⟨b, o, none⟩ → D ≠ [] → b ≠ bd) :
    Calls Try.prog 35 #[.pointer (some ⟨R, 0, none⟩), .slice a D.length cap] w fun e w' => e = .returned (.tuple #[]) ∧ MapI w' bd (n + D.length) (soil f D) ∧ Off [bd] w w' := by
  have HR := hide hR
  have HM0 := hide hM
  have HD := hide hD.2
  have hD1 := hD.1
  clear hR hM hD
  obtain ⟨dn, hdn⟩ : ∃ dn, D.length = dn := ⟨_, rfl⟩
  have HDN := hide hdn
  rw [hdn] at hD1 ⊢
  clear hdn
  go_enter Try.func35, Try.ntmps35
  go_wp2
  go_loopw [10] (fun i wr => ∃ k : Nat, k ≤ dn ∧ i = .int .i64 k ∧ MapI wr bd (n + k) (soil f (D.take k)) ∧ Off [bd] w wr) (fun i _ => dn - (intOf i).toNat)
  case atStart => exact ⟨0, by omega, rfl, by simpa [soil] using HM0.out, Off.refl _ _⟩
  case round =>
    obtain ⟨k, hk, rfl, hM, hO⟩ := hrel
    by_cases hlt : k < dn
    · obtain ⟨⟨p, l⟩, hx⟩ : ∃ x, D[k]? = some x := ⟨_, List.getElem?_eq_getElem (by rw [HDN.out]; exact hlt)⟩
      obtain ⟨hp, hl, b, o, hab, hbl, hrg⟩ := HD.out k _ hx
      have hp : In64 p := hp
      have hl : In64 l := hl
      subst hab
      have hbd : b ≠ bd := hDb b o rfl (fun e => by rw [e] at hx; simp at hx)
      have HRG : Hid (wr.rangeAt b (o + k * 2) [.int .i64 p, .int .i64 l]) := fun j v hv => (World.cell?_of_block (a := ⟨b, o + k * 2 + j, none⟩) (hO.block b hbl (by simpa using hbd))).trans (hrg j v hv)
      have hRl := World.block_lt_of_cell? _ _ HR.out
      have cRw : wr.cell? ⟨R, 2, none⟩ = some (.map (some bd)) := (World.cell?_of_block (a := ⟨R, 2, none⟩) (hO.block R hRl (by simpa using hRb))).trans HR.out
      have HTK : Hid (D.take (k + 1) = D.take k ++ [(p, l)]) := by
        show _ = _
        obtain ⟨hl', hx'⟩ := List.getElem?_eq_some_iff.1 hx
        rw [← hx']
        exact List.take_succ_eq_append_getElem hl'
      have hbw := hM.lt
      obtain ⟨F, hF⟩ : ∃ F, soil f (D.take k) = F := ⟨_, rfl⟩
      have HF : Hid (soil f (D.take k ++ [(p, l)]) = if (F p).isSome = false ∨ l < (F p).getD 0 then updI F p l else F) := by show _ = _; rw [soil_snoc, hF]; rfl
      rw [hF] at hM
      obtain ⟨N, hN⟩ : ∃ N, n + k = N := ⟨_, rfl⟩
      have hN1 : n + (k + 1) = N + 1 := by omega
      have hN2 : N ≤ 2000000 := by omega
      rw [hN] at hM
      have HM1 := hide hM
      have HO := hide hO
      clear hM hO hrg hx hF hN
      go_upto_region 3 with (refine wpList_load_mid rfl 36 _ rfl b (o + k * 2) rfl [.int .i64 p, .int .i64 l] _ HRG.out Try.underlying36 rfl Try.size36n ?_)
      generalize hx1 : wr.alloc _ = x1
      have hG : x1.heap[wr.heap.size]? = some (.cells #[.int .i64 p, .int .i64 l] 36 (0, 0)) := by rw [← hx1]; exact heap_alloc_new _ _
      have hBx : Below wr.heap.size wr x1 := by rw [← hx1]; exact (Below.refl _ _).alloc (Nat.le_refl _) _
      have HM : Hid (MapI x1 bd N F) := HM1.out.stay (hBx.block bd hbw)
      have hM := HM.out
      have cR : x1.cell? ⟨R, 2, none⟩ = some (.map (some bd)) := (hBx.cell (p := ⟨R, 2, none⟩) (World.block_lt_of_cell? _ _ cRw)).trans cRw
      have HOX : Hid (Off [bd] w x1) := by show Off _ _ _; rw [← hx1]; exact HO.out.alloc _
      have hgb : wr.heap.size ≠ bd := by omega
      clear hx1 HRG hBx HM1 HO cRw hbw
      generalize wr.heap.size = g at *
      have c0 : x1.cell? ⟨g, 0, none⟩ = some (.int .i64 p) := by rw [cell_of_row _ _ _ _ _ _ hG]; rfl
      have c1 : x1.cell? ⟨g, 1, none⟩ = some (.int .i64 l) := by rw [cell_of_row _ _ _ _ _ _ hG]; rfl
      clear hG
      refine wp_region_held_drew (S := fun w' => (w'.cell? ⟨R, 2, none⟩ = some (.map (some bd)) ∧ w'.cell? ⟨g, 0, none⟩ = some (.int .i64 p)) ∧ MapI w' bd N F) (by kernel_rfl) ⟨⟨cR, c0⟩, hM⟩ (fun hH => ?_)
      refine take_to 0 15 (.pointer (some ⟨R, 0, none⟩)) rfl (by kernel_rfl) (by kernel_rfl) (by kernel_rfl) (fun _ _ _ h => h) rfl (by rfl) (fun w hw => by rfl) hH ?_
      simp only [Act.put, List.setIfInBounds_toArray, List.set_cons_zero, List.set_cons_succ]
      refine take_to 1 16 (.pointer (some ⟨R, 0, none⟩)) rfl (by kernel_rfl) (by kernel_rfl) (by kernel_rfl) (fun _ _ _ h => h) rfl (by rfl) (fun w hw => by rfl) hH ?_
      simp only [Act.put, List.setIfInBounds_toArray, List.set_cons_zero, List.set_cons_succ]
      refine take_to 2 17 (.pointer (some ⟨R, 2, none⟩)) rfl (by kernel_rfl) (by kernel_rfl) (by kernel_rfl) (fun _ _ _ h => h) rfl (by rfl) (fun w hw => by rfl) hH ?_
      simp only [Act.put, List.setIfInBounds_toArray, List.set_cons_zero, List.set_cons_succ]
      refine take_to 3 18 (.map (some bd)) rfl (by kernel_rfl) (by kernel_rfl) (by kernel_rfl) (fun _ _ _ h => h) rfl (by rfl) (fun w hw => op_load _ _ 68 (.tmp 17) rfl (.pointer (some ⟨R, 2, none⟩)) _ rfl (run_loadAny w R (2) 68 _ Try.isAgg68 hw.1.1)) hH ?_
      simp only [Act.put, List.setIfInBounds_toArray, List.set_cons_zero, List.set_cons_succ]
      refine take_to 4 19 (.pointer (some ⟨g, 0, none⟩)) rfl (by kernel_rfl) (by kernel_rfl) (by kernel_rfl) (fun _ _ _ h => h) rfl (by rfl) (fun w hw => by rfl) hH ?_
      simp only [Act.put, List.setIfInBounds_toArray, List.set_cons_zero, List.set_cons_succ]
      refine take_to 5 20 (.int .i64 p) rfl (by kernel_rfl) (by kernel_rfl) (by kernel_rfl) (fun _ _ _ h => h) rfl (by rfl) (fun w hw => op_load _ _ 3 (.tmp 19) rfl (.pointer (some ⟨g, 0, none⟩)) _ rfl (run_loadAny w g (0) 3 _ Try.isAgg3 hw.1.2)) hH ?_
      simp only [Act.put, List.setIfInBounds_toArray, List.set_cons_zero, List.set_cons_succ]
      refine take_to 6 21 (.tuple #[.int .i64 ((F p).getD 0), .bool (F p).isSome]) rfl (by kernel_rfl) (by kernel_rfl) (by kernel_rfl) (fun _ _ _ h => h) rfl (by rfl) (fun w hw => op_lookup _ _ 68 (.tmp 18) (.tmp 20) true rfl _ _ _ rfl rfl (hw.2.look hp)) hH ?_
      simp only [Act.put, List.setIfInBounds_toArray, List.set_cons_zero, List.set_cons_succ]
      refine take_to 7 14 (.tuple #[.int .i64 ((F p).getD 0), .bool (F p).isSome]) rfl (by kernel_rfl) (by kernel_rfl) (by kernel_rfl) (fun _ _ _ h => h) rfl (by rfl) (fun w hw => by rfl) hH ?_
      simp only [Act.put, List.setIfInBounds_toArray, List.set_cons_zero, List.set_cons_succ]
      refine take_to 8 22 (.int .i64 ((F p).getD 0)) rfl (by kernel_rfl) (by kernel_rfl) (by kernel_rfl) (fun _ _ _ h => h) rfl (by rfl) (fun w hw => by rfl) hH ?_
      simp only [Act.put, List.setIfInBounds_toArray, List.set_cons_zero, List.set_cons_succ]
      refine take_to 9 23 (.bool (F p).isSome) rfl (by kernel_rfl) (by kernel_rfl) (by kernel_rfl) (fun _ _ _ h => h) rfl (by rfl) (fun w hw => by rfl) hH ?_
      simp only [Act.put, List.setIfInBounds_toArray, List.set_cons_zero, List.set_cons_succ]
      refine take_to 10 6 (.int .i64 ((F p).getD 0)) rfl (by kernel_rfl) (by kernel_rfl) (by kernel_rfl) (fun _ _ _ h => h) rfl (by rfl) (fun w hw => by rfl) hH ?_
      simp only [Act.put, List.setIfInBounds_toArray, List.set_cons_zero, List.set_cons_succ]
      refine take_to 11 7 (.bool (F p).isSome) rfl (by kernel_rfl) (by kernel_rfl) (by kernel_rfl) (fun _ _ _ h => h) rfl (by rfl) (fun w hw => by rfl) hH ?_
      simp only [Act.put, List.setIfInBounds_toArray, List.set_cons_zero, List.set_cons_succ]
      refine wpAnyH_done (by kernel_rfl) ?_ _
      clear hH hM
      cases hfp : F p with
      | none =>
        simp only [hfp, Option.getD_none, Option.isSome_none] at HF ⊢
        go_wp2
        refine wp_region_held_drew (S := fun w' => w'.cell? ⟨R, 2, none⟩ = some (.map (some bd)) ∧ w'.cell? ⟨g, 0, none⟩ = some (.int .i64 p) ∧ w'.cell? ⟨g, 1, none⟩ = some (.int .i64 l)) (by kernel_rfl) ⟨cR, c0, c1⟩ (fun hH => ?_)
        refine take_to 0 32 (.pointer (some ⟨R, 0, none⟩)) rfl (by kernel_rfl) (by kernel_rfl) (by kernel_rfl) (fun _ _ _ h => h) rfl (by rfl) (fun w hw => by rfl) hH ?_
        simp only [Act.put, List.setIfInBounds_toArray, List.set_cons_zero, List.set_cons_succ]
        refine take_to 1 33 (.pointer (some ⟨R, 0, none⟩)) rfl (by kernel_rfl) (by kernel_rfl) (by kernel_rfl) (fun _ _ _ h => h) rfl (by rfl) (fun w hw => by rfl) hH ?_
        simp only [Act.put, List.setIfInBounds_toArray, List.set_cons_zero, List.set_cons_succ]
        refine take_to 2 34 (.pointer (some ⟨R, 2, none⟩)) rfl (by kernel_rfl) (by kernel_rfl) (by kernel_rfl) (fun _ _ _ h => h) rfl (by rfl) (fun w hw => by rfl) hH ?_
        simp only [Act.put, List.setIfInBounds_toArray, List.set_cons_zero, List.set_cons_succ]
        refine take_to 3 35 (.map (some bd)) rfl (by kernel_rfl) (by kernel_rfl) (by kernel_rfl) (fun _ _ _ h => h) rfl (by rfl) (fun w hw => op_load _ _ 68 (.tmp 34) rfl (.pointer (some ⟨R, 2, none⟩)) _ rfl (run_loadAny w R (2) 68 _ Try.isAgg68 hw.1)) hH ?_
        simp only [Act.put, List.setIfInBounds_toArray, List.set_cons_zero, List.set_cons_succ]
        refine take_to 4 36 (.pointer (some ⟨g, 0, none⟩)) rfl (by kernel_rfl) (by kernel_rfl) (by kernel_rfl) (fun _ _ _ h => h) rfl (by rfl) (fun w hw => by rfl) hH ?_
        simp only [Act.put, List.setIfInBounds_toArray, List.set_cons_zero, List.set_cons_succ]
        refine take_to 5 37 (.int .i64 p) rfl (by kernel_rfl) (by kernel_rfl) (by kernel_rfl) (fun _ _ _ h => h) rfl (by rfl) (fun w hw => op_load _ _ 3 (.tmp 36) rfl (.pointer (some ⟨g, 0, none⟩)) _ rfl (run_loadAny w g (0) 3 _ Try.isAgg3 hw.2.1)) hH ?_
        simp only [Act.put, List.setIfInBounds_toArray, List.set_cons_zero, List.set_cons_succ]
        refine take_to 6 38 (.pointer (some ⟨g, 1, none⟩)) rfl (by kernel_rfl) (by kernel_rfl) (by kernel_rfl) (fun _ _ _ h => h) rfl (by rfl) (fun w hw => by rfl) hH ?_
        simp only [Act.put, List.setIfInBounds_toArray, List.set_cons_zero, List.set_cons_succ]
        refine take_to 7 39 (.int .i64 l) rfl (by kernel_rfl) (by kernel_rfl) (by kernel_rfl) (fun _ _ _ h => h) rfl (by rfl) (fun w hw => op_load _ _ 3 (.tmp 38) rfl (.pointer (some ⟨g, 1, none⟩)) _ rfl (run_loadAny w g (1) 3 _ Try.isAgg3 hw.2.2)) hH ?_
        simp only [Act.put, List.setIfInBounds_toArray, List.set_cons_zero, List.set_cons_succ]
        obtain ⟨w5, q1, q2, q3⟩ := MapI.store (w := x1.drew.drew) (HM.out.stay rfl) (by omega) hp hl
        have hS5 : w5.cell? ⟨R, 2, none⟩ = some (.map (some bd)) ∧ w5.cell? ⟨g, 0, none⟩ = some (.int .i64 p) ∧ w5.cell? ⟨g, 1, none⟩ = some (.int .i64 l) :=
          ⟨(World.cell?_of_block (a := ⟨R, 2, none⟩) (q3.block R (World.block_lt_of_cell? _ _ hH.1) (by simpa using hRb))).trans hH.1, (World.cell?_of_block (a := ⟨g, 0, none⟩) (q3.block g (World.block_lt_of_cell? _ _ hH.2.1) (by simpa using hgb))).trans hH.2.1, (World.cell?_of_block (a := ⟨g, 1, none⟩) (q3.block g (World.block_lt_of_cell? _ _ hH.2.2) (by simpa using hgb))).trans hH.2.2⟩
        refine step_map_to 8 w5 rfl (by kernel_rfl) rfl (by rfl) 68 (.tmp 35) (.tmp 37) (.tmp 39) rfl _ _ _ rfl rfl rfl q1 hS5 ?_
        refine wpAnyH_done (by kernel_rfl) ?_ _
        have HM5 := hide q2
        have HO5 : Hid (Off [bd] w w5) := (HOX.out.drew.drew).grown q3 (fun k hk => by cases hk; exact .inl (by simp))
        clear hH hS5 q1 q2 q3 cR c0 c1 HM
        go_wp2
        go_roundw
        case rel =>
          refine ⟨k + 1, by omega, by go_num, ?_, HO5.out⟩
          rw [HTK.out, HF.out, if_pos (by simp)]
          rw [hN1]; exact HM5.out
        case measure => simp [intOf]; omega
      | some y =>
        simp only [hfp, Option.getD_some, Option.isSome_some] at HF ⊢
        by_cases hly : l < y
        · have hd : decide (l < y) = true := decide_eq_true hly
          go_wp2
          refine wp_region_held_drew (S := fun w' => w'.cell? ⟨R, 2, none⟩ = some (.map (some bd)) ∧ w'.cell? ⟨g, 0, none⟩ = some (.int .i64 p) ∧ w'.cell? ⟨g, 1, none⟩ = some (.int .i64 l)) (by kernel_rfl) ⟨cR, c0, c1⟩ (fun hH => ?_)
          refine take_to 0 32 (.pointer (some ⟨R, 0, none⟩)) rfl (by kernel_rfl) (by kernel_rfl) (by kernel_rfl) (fun _ _ _ h => h) rfl (by rfl) (fun w hw => by rfl) hH ?_
          simp only [Act.put, List.setIfInBounds_toArray, List.set_cons_zero, List.set_cons_succ]
          refine take_to 1 33 (.pointer (some ⟨R, 0, none⟩)) rfl (by kernel_rfl) (by kernel_rfl) (by kernel_rfl) (fun _ _ _ h => h) rfl (by rfl) (fun w hw => by rfl) hH ?_
          simp only [Act.put, List.setIfInBounds_toArray, List.set_cons_zero, List.set_cons_succ]
          refine take_to 2 34 (.pointer (some ⟨R, 2, none⟩)) rfl (by kernel_rfl) (by kernel_rfl) (by kernel_rfl) (fun _ _ _ h => h) rfl (by rfl) (fun w hw => by rfl) hH ?_
          simp only [Act.put, List.setIfInBounds_toArray, List.set_cons_zero, List.set_cons_succ]
          refine take_to 3 35 (.map (some bd)) rfl (by kernel_rfl) (by kernel_rfl) (by kernel_rfl) (fun _ _ _ h => h) rfl (by rfl) (fun w hw => op_load _ _ 68 (.tmp 34) rfl (.pointer (some ⟨R, 2, none⟩)) _ rfl (run_loadAny w R (2) 68 _ Try.isAgg68 hw.1)) hH ?_
          simp only [Act.put, List.setIfInBounds_toArray, List.set_cons_zero, List.set_cons_succ]
          refine take_to 4 36 (.pointer (some ⟨g, 0, none⟩)) rfl (by kernel_rfl) (by kernel_rfl) (by kernel_rfl) (fun _ _ _ h => h) rfl (by rfl) (fun w hw => by rfl) hH ?_
          simp only [Act.put, List.setIfInBounds_toArray, List.set_cons_zero, List.set_cons_succ]
          refine take_to 5 37 (.int .i64 p) rfl (by kernel_rfl) (by kernel_rfl) (by kernel_rfl) (fun _ _ _ h => h) rfl (by rfl) (fun w hw => op_load _ _ 3 (.tmp 36) rfl (.pointer (some ⟨g, 0, none⟩)) _ rfl (run_loadAny w g (0) 3 _ Try.isAgg3 hw.2.1)) hH ?_
          simp only [Act.put, List.setIfInBounds_toArray, List.set_cons_zero, List.set_cons_succ]
          refine take_to 6 38 (.pointer (some ⟨g, 1, none⟩)) rfl (by kernel_rfl) (by kernel_rfl) (by kernel_rfl) (fun _ _ _ h => h) rfl (by rfl) (fun w hw => by rfl) hH ?_
          simp only [Act.put, List.setIfInBounds_toArray, List.set_cons_zero, List.set_cons_succ]
          refine take_to 7 39 (.int .i64 l) rfl (by kernel_rfl) (by kernel_rfl) (by kernel_rfl) (fun _ _ _ h => h) rfl (by rfl) (fun w hw => op_load _ _ 3 (.tmp 38) rfl (.pointer (some ⟨g, 1, none⟩)) _ rfl (run_loadAny w g (1) 3 _ Try.isAgg3 hw.2.2)) hH ?_
          simp only [Act.put, List.setIfInBounds_toArray, List.set_cons_zero, List.set_cons_succ]
          obtain ⟨w5, q1, q2, q3⟩ := MapI.store (w := x1.drew.drew) (HM.out.stay rfl) (by omega) hp hl
          have hS5 : w5.cell? ⟨R, 2, none⟩ = some (.map (some bd)) ∧ w5.cell? ⟨g, 0, none⟩ = some (.int .i64 p) ∧ w5.cell? ⟨g, 1, none⟩ = some (.int .i64 l) :=
            ⟨(World.cell?_of_block (a := ⟨R, 2, none⟩) (q3.block R (World.block_lt_of_cell? _ _ hH.1) (by simpa using hRb))).trans hH.1, (World.cell?_of_block (a := ⟨g, 0, none⟩) (q3.block g (World.block_lt_of_cell? _ _ hH.2.1) (by simpa using hgb))).trans hH.2.1, (World.cell?_of_block (a := ⟨g, 1, none⟩) (q3.block g (World.block_lt_of_cell? _ _ hH.2.2) (by simpa using hgb))).trans hH.2.2⟩
          refine step_map_to 8 w5 rfl (by kernel_rfl) rfl (by rfl) 68 (.tmp 35) (.tmp 37) (.tmp 39) rfl _ _ _ rfl rfl rfl q1 hS5 ?_
          refine wpAnyH_done (by kernel_rfl) ?_ _
          have HM5 := hide q2
          have HO5 : Hid (Off [bd] w w5) := (HOX.out.drew.drew).grown q3 (fun k hk => by cases hk; exact .inl (by simp))
          clear hH hS5 q1 q2 q3 cR c0 c1 HM
          go_wp2
          go_roundw
          case rel =>
            refine ⟨k + 1, by omega, by go_num, ?_, HO5.out⟩
            rw [HTK.out, HF.out, if_pos (.inr hly)]
            rw [hN1]; exact HM5.out
          case measure => simp [intOf]; omega
        · have hd : decide (l < y) = false := decide_eq_false hly
          go_wp2
          go_roundw
          case rel =>
            refine ⟨k + 1, by omega, by go_num, ?_, HOX.out.drew⟩
            rw [HTK.out, HF.out, if_neg (by simp; omega), hN1]
            obtain ⟨DD, h1, h2⟩ := HM.out
            exact ⟨DD, (h1.mono (Nat.le_succ _)), h2⟩
          case measure => simp [intOf]; omega
    · have hk' : k = dn := by omega
      subst hk'
      go_wp2
      go_end0
      rw [List.take_of_length_le (by rw [HDN.out]; omega)] at hM
      exact ⟨rfl, hM, hO⟩
end Go.Proofs.Ytpjppolbkdnkaaa
