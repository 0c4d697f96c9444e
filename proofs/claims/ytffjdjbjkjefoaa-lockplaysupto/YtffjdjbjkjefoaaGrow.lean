/- grown: of each name that is wanted the mode that one would come to hold. -/
import Derived.Test.YtffjdjbjkjefoaaTab
namespace Go.Proofs.Ytffjdjbjkjefoaa
open Go.RowKit Go.WideAt
set_option linter.unusedVariables false
set_option linter.unusedSimpArgs false

theorem S7 {g : Nat} {w w' : World} {a b : Value} (hb : Below w.heap.size w w') (h : w.cell? ⟨g, 0, none⟩ = some a ∧ w.cell? ⟨g, 1, none⟩ = some b) : w'.cell? ⟨g, 0, none⟩ = some a ∧ w'.cell? ⟨g, 1, none⟩ = some b :=
  ⟨(hb.cell (p := ⟨g, 0, none⟩) (World.block_lt_of_cell? _ _ h.1)).trans h.1, (hb.cell (p := ⟨g, 1, none⟩) (World.block_lt_of_cell? _ _ h.2)).trans h.2⟩
theorem undrew2 {b : Nat} {x w : World} (h : Below b x.drew.drew w) : Below b x w := ⟨h.os, h.tape, h.output, h.size, h.block⟩
set_option maxHeartbeats 2000000 in
set_option maxRecDepth 100000 in
theorem grown_any {w : World} {base : Nat} {B : Tb} {m : Held} {N : Nat} (hT : TabIs w base B m N) {id : Int} (hid : In64 id) {a : Option Addr} {c : Nat} {l : List (List UInt8 × Int)} (hl : WantsAt w a l) :
    Calls Try.prog 27 #[.pointer (some ⟨B.t, 0, none⟩), .int .i64 id, .slice a l.length c] w fun e w' => ∃ bg, e = .returned (.map (some bg)) ∧ w.heap.size ≤ bg ∧ MapV w' 9 bg l.length (intMap (grownF (m id) l)) ∧ Below w.heap.size w w' := by
  have HT := hide hT
  have HL := hide hl
  have hlen := hl.len
  obtain ⟨dn, hdn⟩ : ∃ dn, l.length = dn := ⟨_, rfl⟩
  have HDN := hide hdn
  rw [hdn] at hlen ⊢
  clear hdn hT hl
  have HK : Hid (∀ n w, Calls Try.prog 37 #[.int .i64 n] w fun e w' => e = .returned (.int .i64 (known n)) ∧ w' = w) := known_any
  have HM0 : Hid (MapV (w.alloc (.map #[] 0)) 9 w.heap.size 0 (fun _ => none)) := MapV.made w 9
  have HB0 : Hid (Below w.heap.size w (w.alloc (.map #[] 0))) := (Below.refl _ w).alloc (Nat.le_refl _) _
  have hmm := @run_makeMap Try.prog
  go_enter Try.func27, Try.ntmps27
  go_wp2
  go_loopw [14] (fun i wr => ∃ k : Nat, k ≤ dn ∧ i = .int .i64 k ∧ MapV wr 9 w.heap.size k (intMap (grownF (m id) (l.take k))) ∧ Below w.heap.size w wr) (fun i _ => dn - (intOf i).toNat)
  case atStart =>
    refine ⟨0, by omega, rfl, ?_, HB0.out⟩
    have : intMap (grownF (m id) (l.take 0)) = fun _ => none := by
      unfold intMap grownF
      rw [ofS_none]
      rfl
    rw [this]
    exact HM0.out
  case round =>
    obtain ⟨k, hk, rfl, hM, hB⟩ := hrel
    by_cases hlt : k < dn
    · obtain ⟨⟨nm, md⟩, hx⟩ : ∃ x, l[k]? = some x := ⟨_, List.getElem?_eq_getElem (by rw [HDN.out]; exact hlt)⟩
      obtain ⟨hnm, hmd, b, o, hab, hbl, hrg⟩ := HL.out.at' k _ hx
      have hnm : NameOk nm := hnm
      subst hab
      have HRG : Hid (wr.rangeAt b (o + k * 2) [.string (strOf nm), .int .i64 md]) := fun j v hv => (hB.cell (p := ⟨b, o + k * 2 + j, none⟩) hbl).trans (hrg j v hv)
      have HTK : Hid (l.take (k + 1) = l.take k ++ [(nm, md)]) := by
        show _ = _
        obtain ⟨hl', hx'⟩ := List.getElem?_eq_some_iff.1 hx
        rw [← hx']
        exact List.take_succ_eq_append_getElem hl'
      have hbg := hM.lt
      obtain ⟨G, hG⟩ : ∃ G, grownF (m id) (l.take k) = G := ⟨_, rfl⟩
      have HG : Hid (grownF (m id) (l.take k ++ [(nm, md)]) = grow1 (m id) G (nm, md)) := by show _ = _; rw [grownF_snoc, hG]
      rw [hG] at hM
      have HM1 := hide hM
      have HB1 := hide hB
      clear hM hB hrg hx hG hmd
      have HTW : Hid (TabIs wr base B m N) := HT.out.belowW HB1.out
      go_upto_region 5 with (refine wpList_load_mid rfl 31 _ rfl b (o + k * 2) rfl [.string (strOf nm), .int .i64 md] _ HRG.out Try.underlying31 rfl Try.size31 ?_)
      generalize hx1 : wr.alloc _ = x1
      have hGx : x1.heap[wr.heap.size]? = some (.cells #[.string (strOf nm), .int .i64 md] 31 (0, 0)) := by rw [← hx1]; exact heap_alloc_new _ _
      have hBx : Below wr.heap.size wr x1 := by rw [← hx1]; exact (Below.refl _ _).alloc (Nat.le_refl _) _
      have HM : Hid (MapV x1 9 w.heap.size k (intMap G)) := HM1.out.stay (hBx.block _ hbg)
      have HTX : Hid (TabIs x1 base B m N) := HTW.out.belowW hBx
      have HBX : Hid (Below w.heap.size w x1) := HB1.out.trans (hBx.mono HB1.out.size)
      have hgb : wr.heap.size ≠ w.heap.size := by omega
      have hgl : w.heap.size ≤ wr.heap.size := HB1.out.size
      clear hx1 HRG hBx HM1 HB1 hbg HTW
      generalize wr.heap.size = g at *
      have c0 : x1.cell? ⟨g, 0, none⟩ = some (.string (strOf nm)) := by rw [cell_row hGx]; rfl
      have c1 : x1.cell? ⟨g, 1, none⟩ = some (.int .i64 md) := by rw [cell_row hGx]; rfl
      clear hGx
      cases hmo : isMode md with
      | false =>
        have hkn : known md = 0 := known_none hmo
        go_wp2_with (go_at_call 37; refine (HK.out _ _).mono ?_; rintro e w' ⟨rfl, hw⟩; have hw := hw.symm; subst hw; rw [hkn])
        go_roundw
        case rel =>
          refine ⟨k + 1, by omega, by go_num, ?_, HBX.out⟩
          rw [HTK.out, HG.out]
          unfold grow1
          rw [if_neg (by rw [hmo]; simp)]
          exact HM.out.mono (Nat.le_succ k)
        case measure => simp [intOf]; omega
      | true =>
        have hkn : known md = md := known_some hmo
        have hk0 : (md == 0) = false := by rcases isMode_known hmo with h | h | h | h | h <;> (rw [h]; rfl)
        go_upto_region 6 with (go_at_call 37; refine (HK.out _ _).mono ?_; rintro e w' ⟨rfl, hw⟩; have hw := hw.symm; subst hw; rw [hkn])
        refine wp_region_held_drew (S := fun w' => TabIs w' base B m N ∧ w'.cell? ⟨g, 0, none⟩ = some (.string (strOf nm))) (by kernel_rfl) ⟨HTX.out.belowW (below_drewN _ _ 1), c0⟩ (fun hH => ?_)
        refine take_to 0 22 (.pointer (some ⟨B.t, 0, none⟩)) rfl (by kernel_rfl) (by kernel_rfl) (by kernel_rfl) (fun _ _ _ h => h) rfl (by rfl) (fun w hw => by rfl) hH ?_
        simp only [Act.put, List.setIfInBounds_toArray, List.set_cons_zero, List.set_cons_succ]
        refine take_to 1 23 (.pointer (some ⟨B.t, 0, none⟩)) rfl (by kernel_rfl) (by kernel_rfl) (by kernel_rfl) (fun _ _ _ h => h) rfl (by rfl) (fun w hw => by rfl) hH ?_
        simp only [Act.put, List.setIfInBounds_toArray, List.set_cons_zero, List.set_cons_succ]
        refine take_to 2 24 (.pointer (some ⟨B.t, 0, none⟩)) rfl (by kernel_rfl) (by kernel_rfl) (by kernel_rfl) (fun _ _ _ h => h) rfl (by rfl) (fun w hw => by rfl) hH ?_
        simp only [Act.put, List.setIfInBounds_toArray, List.set_cons_zero, List.set_cons_succ]
        refine take_to 3 25 (.map (some B.bo)) rfl (by kernel_rfl) (by kernel_rfl) (by kernel_rfl) (fun _ _ _ h => h) rfl (by rfl) (fun w hw => op_load _ _ 53 (.tmp 24) rfl (.pointer (some ⟨B.t, 0, none⟩)) _ rfl (run_loadAny w B.t 0 53 _ Try.isAgg53 hw.1.cells0)) hH ?_
        simp only [Act.put, List.setIfInBounds_toArray, List.set_cons_zero, List.set_cons_succ]
        refine take_to 4 26 (.pointer (some ⟨g, 0, none⟩)) rfl (by kernel_rfl) (by kernel_rfl) (by kernel_rfl) (fun _ _ _ h => h) rfl (by rfl) (fun w hw => by rfl) hH ?_
        simp only [Act.put, List.setIfInBounds_toArray, List.set_cons_zero, List.set_cons_succ]
        refine take_to 5 27 (.string (strOf nm)) rfl (by kernel_rfl) (by kernel_rfl) (by kernel_rfl) (fun _ _ _ h => h) rfl (by rfl) (fun w hw => op_load _ _ 9 (.tmp 26) rfl (.pointer (some ⟨g, 0, none⟩)) _ rfl (run_loadAny w g 0 9 _ Try.isAgg9 hw.2)) hH ?_
        simp only [Act.put, List.setIfInBounds_toArray, List.set_cons_zero, List.set_cons_succ]
        refine take_to 6 28 (onV B nm) rfl (by kernel_rfl) (by kernel_rfl) (by kernel_rfl) (fun _ _ _ h => h) rfl (by rfl) (fun w hw => op_lookup _ _ 53 (.tmp 25) (.tmp 27) false rfl _ _ _ rfl rfl (hw.1.lookOn hnm)) hH ?_
        simp only [Act.put, List.setIfInBounds_toArray, List.set_cons_zero, List.set_cons_succ]
        refine take_to 7 29 (.int .i64 id) rfl (by kernel_rfl) (by kernel_rfl) (by kernel_rfl) (fun _ _ _ h => h) rfl (by rfl) (fun w hw => by rfl) hH ?_
        simp only [Act.put, List.setIfInBounds_toArray, List.set_cons_zero, List.set_cons_succ]
        refine take_to 8 30 (.int .i64 ((m id nm).getD 0)) rfl (by kernel_rfl) (by kernel_rfl) (by kernel_rfl) (fun _ _ _ h => h) rfl (by rfl) (fun w hw => op_lookup _ _ 63 (.tmp 28) (.tmp 29) false rfl _ _ _ rfl rfl (hw.1.lookIn nm hid)) hH ?_
        simp only [Act.put, List.setIfInBounds_toArray, List.set_cons_zero, List.set_cons_succ]
        refine take_to 9 10 (.int .i64 ((m id nm).getD 0)) rfl (by kernel_rfl) (by kernel_rfl) (by kernel_rfl) (fun _ _ _ h => h) rfl (by rfl) (fun w hw => by rfl) hH ?_
        simp only [Act.put, List.setIfInBounds_toArray, List.set_cons_zero, List.set_cons_succ]
        refine wpAnyH_done (by kernel_rfl) ?_ _
        obtain ⟨hd, ehd⟩ : ∃ hd, (m id nm).getD 0 = hd := ⟨_, rfl⟩
        rw [ehd]
        have HHD := hide ehd
        clear ehd
        go_upto_region 7 with fail
        obtain ⟨gd, egd⟩ : ∃ gd, (G nm).getD 0 = gd := ⟨_, rfl⟩
        have HGD := hide egd
        have HLK0 : Hid (∀ w', (∀ k, k = w.heap.size → w'.heap[k]? = x1.heap[k]?) → (Instr.lookup 57 (.map (some w.heap.size)) (.string (strOf nm)) false).run Try.prog w' = .ok (.int .i64 gd) w') := fun w' hw' => by
          have := (HM.out.stay (hw' _ rfl)).look (w := w') keyed9 Try.underlying57 (zero3 w') (key9 hnm.max)
          rw [this, ← egd]
          show Result.ok (((G nm).map (Value.int .i64)).getD (.int .i64 0)) w' = _
          cases G nm <;> rfl
        clear egd
        have hkm : k < maxLen := by have : 140737488355328 < maxLen := by decide
                                    omega
        have HKM := hide hkm
        clear hkm
        refine wp_region_held_drew (S := fun w' => w'.cell? ⟨g, 0, none⟩ = some (.string (strOf nm)) ∧ w'.cell? ⟨g, 1, none⟩ = some (.int .i64 md)) (by kernel_rfl) ⟨c0, c1⟩ (fun hH7 => ?_)
        refine take_to 0 31 (.map (some w.heap.size)) rfl (by kernel_rfl) (by kernel_rfl) (by kernel_rfl) (fun _ _ _ h => h) rfl (by rfl) (fun w hw => by rfl) hH7 ?_
        simp only [Act.put, List.setIfInBounds_toArray, List.set_cons_zero, List.set_cons_succ]
        refine take_to 1 32 (.pointer (some ⟨g, 0, none⟩)) rfl (by kernel_rfl) (by kernel_rfl) (by kernel_rfl) (fun _ _ _ h => h) rfl (by rfl) (fun w hw => by rfl) hH7 ?_
        simp only [Act.put, List.setIfInBounds_toArray, List.set_cons_zero, List.set_cons_succ]
        refine take_to 2 33 (.string (strOf nm)) rfl (by kernel_rfl) (by kernel_rfl) (by kernel_rfl) (fun _ _ _ h => h) rfl (by rfl) (fun w hw => op_load _ _ 9 (.tmp 32) rfl (.pointer (some ⟨g, 0, none⟩)) _ rfl (run_loadAny w g 0 9 _ Try.isAgg9 hw.1)) hH7 ?_
        simp only [Act.put, List.setIfInBounds_toArray, List.set_cons_zero, List.set_cons_succ]
        refine take_to 3 34 (.int .i64 hd) rfl (by kernel_rfl) (by kernel_rfl) (by kernel_rfl) (fun _ _ _ h => h) rfl (by rfl) (fun w hw => by rfl) hH7 ?_
        simp only [Act.put, List.setIfInBounds_toArray, List.set_cons_zero, List.set_cons_succ]
        refine take_to 4 35 (.map (some w.heap.size)) rfl (by kernel_rfl) (by kernel_rfl) (by kernel_rfl) (fun _ _ _ h => h) rfl (by rfl) (fun w hw => by rfl) hH7 ?_
        simp only [Act.put, List.setIfInBounds_toArray, List.set_cons_zero, List.set_cons_succ]
        refine take_to 5 36 (.pointer (some ⟨g, 0, none⟩)) rfl (by kernel_rfl) (by kernel_rfl) (by kernel_rfl) (fun _ _ _ h => h) rfl (by rfl) (fun w hw => by rfl) hH7 ?_
        simp only [Act.put, List.setIfInBounds_toArray, List.set_cons_zero, List.set_cons_succ]
        refine take_to 6 37 (.string (strOf nm)) rfl (by kernel_rfl) (by kernel_rfl) (by kernel_rfl) (fun _ _ _ h => h) rfl (by rfl) (fun w hw => op_load _ _ 9 (.tmp 36) rfl (.pointer (some ⟨g, 0, none⟩)) _ rfl (run_loadAny w g 0 9 _ Try.isAgg9 hw.1)) hH7 ?_
        simp only [Act.put, List.setIfInBounds_toArray, List.set_cons_zero, List.set_cons_succ]
        refine take_to 9 40 (.pointer (some ⟨g, 1, none⟩)) rfl (by kernel_rfl) (by kernel_rfl) (by kernel_rfl) (fun _ _ _ h => h) rfl (by rfl) (fun w hw => by rfl) hH7 ?_
        simp only [Act.put, List.setIfInBounds_toArray, List.set_cons_zero, List.set_cons_succ]
        refine take_to 10 41 (.int .i64 md) rfl (by kernel_rfl) (by kernel_rfl) (by kernel_rfl) (fun _ _ _ h => h) rfl (by rfl) (fun w hw => op_load _ _ 3 (.tmp 40) rfl (.pointer (some ⟨g, 1, none⟩)) _ rfl (run_loadAny w g 1 3 _ Try.isAgg3 hw.2)) hH7 ?_
        simp only [Act.put, List.setIfInBounds_toArray, List.set_cons_zero, List.set_cons_succ]
        refine step_to 7 38 (.int .i64 gd) _ rfl (by kernel_rfl) rfl (by rfl) (op_lookup _ _ 57 (.tmp 35) (.tmp 37) false rfl _ _ _ rfl rfl (HLK0.out _ (fun _ _ => rfl))) hH7 ?_
        simp only [Act.put, List.setIfInBounds_toArray, List.set_cons_zero, List.set_cons_succ]
        refine step_call2_to 8 39 17 rfl (by kernel_rfl) rfl (by rfl) (.tmp 34) (.tmp 38) _ rfl _ _ rfl rfl Try.enters17 (join_any _ _ _) ?_
        rintro e w1 ⟨rfl, hb1⟩
        have h1 := S7 hb1 hH7
        refine ⟨_, rfl, h1, ?_⟩
        simp only [Act.put, List.setIfInBounds_toArray, List.set_cons_zero, List.set_cons_succ]
        refine step_call2_to 11 42 17 rfl (by kernel_rfl) rfl (by rfl) (.tmp 39) (.tmp 41) _ rfl _ _ rfl rfl Try.enters17 (join_any _ _ _) ?_
        rintro e w2 ⟨rfl, hb2⟩
        have h2 := S7 hb2 h1
        refine ⟨_, rfl, h2, ?_⟩
        simp only [Act.put, List.setIfInBounds_toArray, List.set_cons_zero, List.set_cons_succ]
        have hl0 := HM.out.lt
        have HM2 : MapV w2 9 w.heap.size k (intMap G) := (HM.out.stay (w' := w1) (hb1.block w.heap.size hl0)).stay (hb2.block w.heap.size (Nat.lt_of_lt_of_le hl0 hb1.size))
        have hB2 : Below w.heap.size w w2 := (HBX.out.trans (undrew2 (hb1.mono (Nat.le_of_lt hl0)))).trans (hb2.mono (Nat.le_trans (Nat.le_of_lt hl0) hb1.size))
        obtain ⟨w5, q1, q2, q3⟩ := HM2.store keyed9 Try.underlying57 HKM.out (key9 hnm.max) (.int .i64 (join (join hd gd) md))
        have hS5 : w5.cell? ⟨g, 0, none⟩ = some (.string (strOf nm)) ∧ w5.cell? ⟨g, 1, none⟩ = some (.int .i64 md) :=
          ⟨(World.cell?_of_block (a := ⟨g, 0, none⟩) (q3.block g (World.block_lt_of_cell? _ _ h2.1) (by simpa using hgb))).trans h2.1, (World.cell?_of_block (a := ⟨g, 1, none⟩) (q3.block g (World.block_lt_of_cell? _ _ h2.2) (by simpa using hgb))).trans h2.2⟩
        refine step_map_to 12 w5 rfl (by kernel_rfl) rfl (by rfl) 57 (.tmp 31) (.tmp 33) (.tmp 42) rfl _ _ _ rfl rfl rfl q1 hS5 ?_
        refine wpAnyH_done (by kernel_rfl) ?_ _
        have HM5 := hide q2
        have HB5 : Hid (Below w.heap.size w w5) := ⟨q3.os.trans hB2.os, q3.tape.trans hB2.tape, q3.output.trans hB2.output, Nat.le_trans hB2.size q3.size, fun j hj => (q3.block j (by have := hB2.size; omega) (by intro e; injection e with e; omega)).trans (hB2.block j hj)⟩
        clear hS5 q1 q2 q3 HM2 hB2 hb1 hb2 h1 h2 hH7 HM c0 c1 hl0
        go_wp2
        go_roundw
        case rel =>
          refine ⟨k + 1, by omega, by go_num, ?_, HB5.out⟩
          rw [HTK.out, HG.out]
          unfold grow1
          rw [if_pos hmo]
          have e2 := HM5.out
          rw [intMap_upd, ← HHD.out, ← HGD.out] at e2
          exact e2
        case measure => simp [intOf]; omega
    · have hk' : k = dn := by omega
      subst hk'
      go_wp2
      go_ret
      rw [List.take_of_length_le (by rw [HDN.out]; omega)] at hM
      exact ⟨_, rfl, Nat.le_refl _, hM, hB⟩
end Go.Proofs.Ytffjdjbjkjefoaa
