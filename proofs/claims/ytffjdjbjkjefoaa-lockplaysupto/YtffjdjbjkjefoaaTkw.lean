/- Take, the document's way: the walk. -/
import Derived.Test.YtffjdjbjkjefoaaTkp
namespace Go.Proofs.Ytffjdjbjkjefoaa
open Go.RowKit Go.WideAt
set_option linter.unusedVariables false
set_option linter.unusedSimpArgs false

theorem run_store39 (w : World) (b : Nat) (u : Value) (ao : Option Addr) (n c : Nat) (hc : w.cell? ⟨b, 0, none⟩ = some u) (hf : w.frozen? ⟨b, 0, none⟩ = false) : (Instr.storeAt 39 (.pointer (some ⟨b, 0, none⟩)) (.slice ao n c)).run Try.prog w = .ok () (w.setCell ⟨b, 0, none⟩ (.slice ao n c)) := by
  have hag : ∀ w, (isAgg 39).run Try.prog w = .ok false w := fun w => by kernel_rfl
  simp [go_sem, hag, hc, hf]
set_option maxRecDepth 100000 in
set_option maxHeartbeats 4000000 in
theorem rtake_any {w : World} {base rt : Nat} {v : Value} {hs : List Ht} (h : RtAt w base rt v hs) (hl : hs.length ≤ 1000000000) (id : Int) {al : Option Addr} {cl : Nat} {L : List Wn} (hL : Wl w al L) (hLl : L.length ≤ 1000000000) (hn : ∀ q o, al = some ⟨q, o, none⟩ → q ≠ rt ∧ v.ownBlock ≠ some q) :
    Calls Try.prog 19 #[.pointer (some ⟨rt, 0, none⟩), .int .i64 id, .slice al L.length cl] w fun e w' => ∃ A g v', RaIs (badB hs L id) hs A ∧ e = .returned (.bool A.isEmpty) ∧ (A ≠ [] → TkAt w base rt v id L hs 0 g v' w') ∧ (A = [] → TkAt w base rt v id L hs L.length g v' w') := by
  have HA := hide (rask_any h hl id (cl := cl) hL hLl)
  have HRT := hide h
  have HL := hide hL
  have HN := hide hn
  have H38 : Hid (∀ (a : Int) (w : World), Calls Try.prog 38 #[.int .i64 a] w fun e w' => e = .returned (.bool (isMode a)) ∧ w' = w) := mode_any
  have c0 := h.cell0
  obtain ⟨m, hm⟩ : ∃ m, L.length = m := ⟨_, rfl⟩
  have HM := hide hm
  rw [hm] at hLl HA ⊢
  have HHL := hide hl
  have HLL := hide hLl
  clear h hL hn hm
  go_enter Try.func19, Try.ntmps19
  go_upto_region 2 with (go_at_call 22; refine HA.out.mono ?_; rintro e x1 ⟨v1, A, rfl, hr1, hA1, hb1⟩; obtain ⟨a1, d1, rfl⟩ := owns_len hr1; have HA1 := hide hA1; have HB1 := hide hb1; clear hr1 hA1 hb1)
  · have hAp : 0 < A.length := by assumption
    have hAe : A ≠ [] := List.length_pos_iff.1 hAp
    have hAi : (0 : Int) < (A.length : Int) := by omega
    go_wp2
    go_ret
    refine ⟨A, hs, v, HA1.out, ?_, fun _ => TkAt.start HRT.out HB1.out, fun e => absurd e hAe⟩
    cases A with
    | nil => exact absurd rfl hAe
    | cons a b => rfl
  · have hAz : ¬ 0 < A.length := by assumption
    have hAe : A = [] := List.eq_nil_of_length_eq_zero (by omega)
    subst hAe
    clear c0 hAz
    rw [show decide (0 < ([] : List Int).length) = false from rfl, show ((([] : List Int).length : Nat) : Int) = 0 from rfl, show ([] : List Int).length = 0 from rfl]
    go_loopw [7] (fun i wr => ∃ (k : Nat) (g : List Ht) (v' : Value), k ≤ m ∧ i = .int .i64 (k : Int) ∧ TkAt w base rt v id L hs k g v' wr) (fun i _ => m - (intOf i).toNat)
    case atStart => exact ⟨0, hs, v, by omega, rfl, TkAt.start HRT.out HB1.out⟩
    case round =>
      obtain ⟨k, g, v', hk, rfl, hT⟩ := hrel
      have HT := hide hT
      clear hT
      obtain ⟨W2, rfl⟩ : ∃ W2 : World, W2 = wr := ⟨_, rfl⟩
      by_cases hlt : k < m
      · have hlti : (k : Int) < (m : Int) := by omega
        obtain ⟨x, hx⟩ : ∃ x, L[k]? = some x := ⟨_, List.getElem?_eq_getElem (by rw [HM.out]; exact hlt)⟩
        have HW := hide (HT.out.wants HL.out HN.out)
        obtain ⟨q, oo, hal, c1, c2⟩ := HW.out k x hx
        subst hal
        have HQ := hide (HN.out q oo rfl)
        have HX := hide hx
        have HLT := hide hlt
        clear hx
        obtain ⟨t, md⟩ := x
        change W2.cell? ⟨q, oo + k * 2, none⟩ = some (scell t) at c1
        change W2.cell? ⟨q, oo + k * 2 + 1, none⟩ = some (.int .i64 md) at c2
        by_cases hmd : isMode md = true
        · obtain ⟨ag, cg, rfl⟩ := owns_len HT.out.tab.own
          have HMD := hide hmd
          have HGO := hide (goal_any HT.out.tab (by have h1 := HT.out.len; have h2 := HHL.out; have h3 := HLL.out; omega) id t (c := cl) HW.out (by rw [HM.out]; have h3 := HLL.out; omega))
          rw [HM.out] at HGO
          obtain ⟨gl, hgl⟩ : ∃ gl, goalF (modeL g id t) L t = gl := ⟨_, rfl⟩
          rw [hgl] at HGO
          have HGL := hide hgl
          obtain ⟨n, hn⟩ : ∃ n, g.length = n := ⟨_, rfl⟩
          have HGN := hide hn
          rw [hn] at HT
          have HC0 : Hid (∀ W, Below W2.heap.size W2 W → W.cell? ⟨rt, 0, none⟩ = some (.slice ag n cg)) := fun W hW => (HT.out.tab.belowW hW).cell0
          have HC : Hid (∀ j z, g[j]? = some z → ∃ gg, ag = some ⟨gg, 0, none⟩ ∧ W2.cell? ⟨gg, j * 3, none⟩ = some (.int .i64 z.1) ∧ W2.cell? ⟨gg, j * 3 + 1, none⟩ = some (scell z.2.1) ∧ W2.cell? ⟨gg, j * 3 + 2, none⟩ = some (.int .i64 z.2.2)) := fun j z hz => by
            obtain ⟨g', c', e, h1⟩ := HT.out.tab.get hz
            injection e with e1
            exact ⟨g', e1, h1⟩
          have HS1 : Hid (∀ W, Below W2.heap.size W2 W → W.cell? ⟨q, oo + k * 2, none⟩ = some (scell t)) := fun W hW => (hW.cell (p := ⟨q, oo + k * 2, none⟩) (World.block_lt_of_cell? _ _ c1)).trans c1
          have hnb : n ≤ 2000000000 := by have h1 := HT.out.len; have h2 := HHL.out; have h3 := HLL.out; omega
          clear hgl hn
          go_upto_region 10 with (first | (go_at_call 38; refine (H38.out _ _).mono ?_; rintro e x2 ⟨rfl, hw2⟩; obtain rfl := hw2.symm) | (go_at_call 39; refine HGO.out.mono ?_; rintro e x3 ⟨rfl, hw3⟩; obtain rfl := hw3.symm))
          clear c1 c2 hmd
          go_loopw [9, 10] (fun p i w2 => ∃ j : Nat, j ≤ n ∧ i = .int .i64 (j : Int) ∧ FoundL g id t j p ∧ Below W2.heap.size W2 w2) (fun _ i _ => n - (intOf i).toNat)
          case atStart => exact ⟨0, by omega, rfl, FoundL.zero _ _ _, Below.refl _ _⟩
          case round =>
            obtain ⟨j, hj, rfl, hF, hB⟩ := hrel
            have HF := hide hF
            have HB := hide hB
            have c0 := HC0.out _ HB.out
            clear hF hB
            by_cases hlj : j < n
            · have hlji : (j : Int) < (n : Int) := by omega
              obtain ⟨z, hz⟩ : ∃ z, g[j]? = some z := ⟨_, List.getElem?_eq_getElem (by rw [HGN.out]; exact hlj)⟩
              obtain ⟨gg, hag, d1, d2, d3⟩ := HC.out j z hz
              subst hag
              have HZ := hide hz
              have HLJ := hide hlj
              have HZ1 := hide (fun W (hW : Below W2.heap.size W2 W) => (hW.cell (p := ⟨gg, j * 3, none⟩) (World.block_lt_of_cell? _ _ d1)).trans d1)
              have HZ2 := hide (fun W (hW : Below W2.heap.size W2 W) => (hW.cell (p := ⟨gg, j * 3 + 1, none⟩) (World.block_lt_of_cell? _ _ d2)).trans d2)
              clear hz d1 d2 d3
              obtain ⟨y, s, mz⟩ := z
              change Hid (∀ W, Below W2.heap.size W2 W → W.cell? ⟨gg, j * 3, none⟩ = some (.int .i64 y)) at HZ1
              change Hid (∀ W, Below W2.heap.size W2 W → W.cell? ⟨gg, j * 3 + 1, none⟩ = some (scell s)) at HZ2
              go_upto_region 12 with fail
              have hd : Below W2.heap.size W2 wr.drew := HB.out.trans (below_drewN _ _ 1)
              refine wp_region_held_drew (S := fun W => Below W2.heap.size W2 W) (by kernel_rfl) hd (fun hH => ?_)
              refine take_to 0 48 (.pointer (some ⟨rt, 0, none⟩)) rfl (by kernel_rfl) (by kernel_rfl) (by kernel_rfl) (fun _ _ _ h => h) rfl (by rfl) (fun w hw => by rfl) hH ?_
              simp only [Act.put, List.setIfInBounds_toArray, List.set_cons_zero, List.set_cons_succ]
              refine take_to 1 49 (.pointer (some ⟨rt, 0, none⟩)) rfl (by kernel_rfl) (by kernel_rfl) (by kernel_rfl) (fun _ _ _ h => h) rfl (by rfl) (fun w hw => by rfl) hH ?_
              simp only [Act.put, List.setIfInBounds_toArray, List.set_cons_zero, List.set_cons_succ]
              refine take_to 2 50 (.pointer (some ⟨rt, 0, none⟩)) rfl (by kernel_rfl) (by kernel_rfl) (by kernel_rfl) (fun _ _ _ h => h) rfl (by rfl) (fun w hw => by rfl) hH ?_
              simp only [Act.put, List.setIfInBounds_toArray, List.set_cons_zero, List.set_cons_succ]
              refine take_to 3 51 (.slice (some ⟨gg, 0, none⟩) n cg) rfl (by kernel_rfl) (by kernel_rfl) (by kernel_rfl) (fun _ _ _ h => h) rfl (by rfl) (fun w hw => op_load _ _ 39 (.tmp 50) rfl (.pointer (some ⟨rt, 0, none⟩)) _ rfl (run_loadAny w _ _ 39 _ (fun w => by kernel_rfl) (HC0.out w hw))) hH ?_
              simp only [Act.put, List.setIfInBounds_toArray, List.set_cons_zero, List.set_cons_succ]
              refine take_to 4 52 (.int .i64 (j : Int)) rfl (by kernel_rfl) (by kernel_rfl) (by kernel_rfl) (fun _ _ _ h => h) rfl (by rfl) (fun w hw => by rfl) hH ?_
              simp only [Act.put, List.setIfInBounds_toArray, List.set_cons_zero, List.set_cons_succ]
              refine take_to 5 53 (.pointer (some ⟨gg, j * 3, none⟩)) rfl (by kernel_rfl) (by kernel_rfl) (by kernel_rfl) (fun _ _ _ h => h) rfl (by rfl) (fun w hw => op_index _ _ 39 (.tmp 51) (.tmp 52) rfl (.slice (some ⟨gg, 0, none⟩) n cg) (.int .i64 (j : Int)) _ rfl rfl (run_index39 w _ _ _ _ HLJ.out)) hH ?_
              simp only [Act.put, List.setIfInBounds_toArray, List.set_cons_zero, List.set_cons_succ]
              refine take_to 6 54 (.pointer (some ⟨gg, j * 3, none⟩)) rfl (by kernel_rfl) (by kernel_rfl) (by kernel_rfl) (fun _ _ _ h => h) rfl (by rfl) (fun w hw => by rfl) hH ?_
              simp only [Act.put, List.setIfInBounds_toArray, List.set_cons_zero, List.set_cons_succ]
              refine take_to 7 55 (.int .i64 y) rfl (by kernel_rfl) (by kernel_rfl) (by kernel_rfl) (fun _ _ _ h => h) rfl (by rfl) (fun w hw => op_load _ _ 3 (.tmp 54) rfl (.pointer (some ⟨gg, j * 3, none⟩)) _ rfl (run_loadAny w _ _ 3 _ Try.isAgg3 (HZ1.out w hw))) hH ?_
              simp only [Act.put, List.setIfInBounds_toArray, List.set_cons_zero, List.set_cons_succ]
              refine take_to 8 56 (.int .i64 id) rfl (by kernel_rfl) (by kernel_rfl) (by kernel_rfl) (fun _ _ _ h => h) rfl (by rfl) (fun w hw => by rfl) hH ?_
              simp only [Act.put, List.setIfInBounds_toArray, List.set_cons_zero, List.set_cons_succ]
              by_cases hy : y = id
              · skip
                refine take_to 9 57 (.bool true) rfl (by kernel_rfl) (by kernel_rfl) (by kernel_rfl) (fun _ _ _ h => h) rfl (by rfl) (fun w hw => op_eql3 _ _ (.tmp 55) (.tmp 56) _ rfl y id rfl rfl true (by simp [hy])) hH ?_
                simp only [Act.put, List.setIfInBounds_toArray, List.set_cons_zero, List.set_cons_succ]
                refine take_to 10 58 (.bool true) rfl (by kernel_rfl) (by kernel_rfl) (by kernel_rfl) (fun _ _ _ h => h) rfl (by rfl) (fun w hw => by rfl) hH ?_
                simp only [Act.put, List.setIfInBounds_toArray, List.set_cons_zero, List.set_cons_succ]
                refine take_to 11 59 (.pointer (some ⟨rt, 0, none⟩)) rfl (by kernel_rfl) (by kernel_rfl) (by kernel_rfl) (fun _ _ _ h => h) rfl (by rfl) (fun w hw => by rfl) hH ?_
                simp only [Act.put, List.setIfInBounds_toArray, List.set_cons_zero, List.set_cons_succ]
                refine take_to 12 60 (.pointer (some ⟨rt, 0, none⟩)) rfl (by kernel_rfl) (by kernel_rfl) (by kernel_rfl) (fun _ _ _ h => h) rfl (by rfl) (fun w hw => by rfl) hH ?_
                simp only [Act.put, List.setIfInBounds_toArray, List.set_cons_zero, List.set_cons_succ]
                refine take_to 13 61 (.pointer (some ⟨rt, 0, none⟩)) rfl (by kernel_rfl) (by kernel_rfl) (by kernel_rfl) (fun _ _ _ h => h) rfl (by rfl) (fun w hw => by rfl) hH ?_
                simp only [Act.put, List.setIfInBounds_toArray, List.set_cons_zero, List.set_cons_succ]
                refine take_to 14 62 (.slice (some ⟨gg, 0, none⟩) n cg) rfl (by kernel_rfl) (by kernel_rfl) (by kernel_rfl) (fun _ _ _ h => h) rfl (by rfl) (fun w hw => op_load _ _ 39 (.tmp 61) rfl (.pointer (some ⟨rt, 0, none⟩)) _ rfl (run_loadAny w _ _ 39 _ (fun w => by kernel_rfl) (HC0.out w hw))) hH ?_
                simp only [Act.put, List.setIfInBounds_toArray, List.set_cons_zero, List.set_cons_succ]
                refine take_to 15 63 (.int .i64 (j : Int)) rfl (by kernel_rfl) (by kernel_rfl) (by kernel_rfl) (fun _ _ _ h => h) rfl (by rfl) (fun w hw => by rfl) hH ?_
                simp only [Act.put, List.setIfInBounds_toArray, List.set_cons_zero, List.set_cons_succ]
                refine take_to 16 64 (.pointer (some ⟨gg, j * 3, none⟩)) rfl (by kernel_rfl) (by kernel_rfl) (by kernel_rfl) (fun _ _ _ h => h) rfl (by rfl) (fun w hw => op_index _ _ 39 (.tmp 62) (.tmp 63) rfl (.slice (some ⟨gg, 0, none⟩) n cg) (.int .i64 (j : Int)) _ rfl rfl (run_index39 w _ _ _ _ HLJ.out)) hH ?_
                simp only [Act.put, List.setIfInBounds_toArray, List.set_cons_zero, List.set_cons_succ]
                refine take_to 17 65 (.pointer (some ⟨gg, j * 3 + 1, none⟩)) rfl (by kernel_rfl) (by kernel_rfl) (by kernel_rfl) (fun _ _ _ h => h) rfl (by rfl) (fun w hw => by rfl) hH ?_
                simp only [Act.put, List.setIfInBounds_toArray, List.set_cons_zero, List.set_cons_succ]
                refine take_to 18 66 (scell s) rfl (by kernel_rfl) (by kernel_rfl) (by kernel_rfl) (fun _ _ _ h => h) rfl (by rfl) (fun w hw => op_load _ _ 9 (.tmp 65) rfl (.pointer (some ⟨gg, j * 3 + 1, none⟩)) _ rfl (run_loadAny w _ _ 9 _ Try.isAgg9 (HZ2.out w hw))) hH ?_
                simp only [Act.put, List.setIfInBounds_toArray, List.set_cons_zero, List.set_cons_succ]
                refine take_to 19 67 (.slice (some ⟨q, oo, none⟩) m cl) rfl (by kernel_rfl) (by kernel_rfl) (by kernel_rfl) (fun _ _ _ h => h) rfl (by rfl) (fun w hw => by rfl) hH ?_
                simp only [Act.put, List.setIfInBounds_toArray, List.set_cons_zero, List.set_cons_succ]
                refine take_to 20 68 (.int .i64 (k : Int)) rfl (by kernel_rfl) (by kernel_rfl) (by kernel_rfl) (fun _ _ _ h => h) rfl (by rfl) (fun w hw => by rfl) hH ?_
                simp only [Act.put, List.setIfInBounds_toArray, List.set_cons_zero, List.set_cons_succ]
                refine take_to 21 69 (.pointer (some ⟨q, oo + k * 2, none⟩)) rfl (by kernel_rfl) (by kernel_rfl) (by kernel_rfl) (fun _ _ _ h => h) rfl (by rfl) (fun w hw => op_index _ _ 45 (.tmp 67) (.tmp 68) rfl (.slice (some ⟨q, oo, none⟩) m cl) (.int .i64 (k : Int)) _ rfl rfl (run_index45 w _ _ _ _ _ HLT.out)) hH ?_
                simp only [Act.put, List.setIfInBounds_toArray, List.set_cons_zero, List.set_cons_succ]
                refine take_to 22 70 (.pointer (some ⟨q, oo + k * 2, none⟩)) rfl (by kernel_rfl) (by kernel_rfl) (by kernel_rfl) (fun _ _ _ h => h) rfl (by rfl) (fun w hw => by rfl) hH ?_
                simp only [Act.put, List.setIfInBounds_toArray, List.set_cons_zero, List.set_cons_succ]
                refine take_to 23 71 (scell t) rfl (by kernel_rfl) (by kernel_rfl) (by kernel_rfl) (fun _ _ _ h => h) rfl (by rfl) (fun w hw => op_load _ _ 9 (.tmp 70) rfl (.pointer (some ⟨q, oo + k * 2, none⟩)) _ rfl (run_loadAny w _ _ 9 _ Try.isAgg9 (HS1.out w hw))) hH ?_
                simp only [Act.put, List.setIfInBounds_toArray, List.set_cons_zero, List.set_cons_succ]
                by_cases hts : s = t
                · skip
                  refine take_to 24 72 (.bool true) rfl (by kernel_rfl) (by kernel_rfl) (by kernel_rfl) (fun _ _ _ h => h) rfl (by rfl) (fun w hw => op_eqlstr _ _ (.tmp 66) (.tmp 71) _ rfl s t rfl rfl true (decide_eq_true hts)) hH ?_
                  simp only [Act.put, List.setIfInBounds_toArray, List.set_cons_zero, List.set_cons_succ]
                  refine take_to 25 73 (.bool true) rfl (by kernel_rfl) (by kernel_rfl) (by kernel_rfl) (fun _ _ _ h => h) rfl (by rfl) (fun w hw => by rfl) hH ?_
                  simp only [Act.put, List.setIfInBounds_toArray, List.set_cons_zero, List.set_cons_succ]
                  refine wpAnyH_done (by kernel_rfl) ?_ _
                  have HE := hide hH
                  clear hH hd
                  go_wp2
                  refine ⟨⟨j + 1, by have := HLJ.out; omega, by go_num, FoundL.hit HZ.out ⟨hy, hts⟩, HE.out⟩, ?_⟩
                  have := HLJ.out
                  simp [intOf]
                  omega
                · skip
                  refine take_to 24 72 (.bool false) rfl (by kernel_rfl) (by kernel_rfl) (by kernel_rfl) (fun _ _ _ h => h) rfl (by rfl) (fun w hw => op_eqlstr _ _ (.tmp 66) (.tmp 71) _ rfl s t rfl rfl false (decide_eq_false hts)) hH ?_
                  simp only [Act.put, List.setIfInBounds_toArray, List.set_cons_zero, List.set_cons_succ]
                  refine take_to 25 73 (.bool false) rfl (by kernel_rfl) (by kernel_rfl) (by kernel_rfl) (fun _ _ _ h => h) rfl (by rfl) (fun w hw => by rfl) hH ?_
                  simp only [Act.put, List.setIfInBounds_toArray, List.set_cons_zero, List.set_cons_succ]
                  refine wpAnyH_done (by kernel_rfl) ?_ _
                  have HE := hide hH
                  clear hH hd
                  go_wp2
                  refine ⟨⟨j + 1, by have := HLJ.out; omega, by go_num, HF.out.miss HZ.out (fun e => hts e.2), HE.out⟩, ?_⟩
                  have := HLJ.out
                  simp [intOf]
                  omega
              · skip
                refine take_to 9 57 (.bool false) rfl (by kernel_rfl) (by kernel_rfl) (by kernel_rfl) (fun _ _ _ h => h) rfl (by rfl) (fun w hw => op_eql3 _ _ (.tmp 55) (.tmp 56) _ rfl y id rfl rfl false (by simp [hy])) hH ?_
                simp only [Act.put, List.setIfInBounds_toArray, List.set_cons_zero, List.set_cons_succ]
                refine take_to 10 58 (.bool false) rfl (by kernel_rfl) (by kernel_rfl) (by kernel_rfl) (fun _ _ _ h => h) rfl (by rfl) (fun w hw => by rfl) hH ?_
                simp only [Act.put, List.setIfInBounds_toArray, List.set_cons_zero, List.set_cons_succ]
                refine skip_to 11 59 rfl (by kernel_rfl) (by kernel_rfl) (by kernel_rfl) (fun _ _ _ h => h) rfl (by rfl) hH ?_
                simp only [Act.put, List.setIfInBounds_toArray, List.set_cons_zero, List.set_cons_succ]
                refine skip_to 12 60 rfl (by kernel_rfl) (by kernel_rfl) (by kernel_rfl) (fun _ _ _ h => h) rfl (by rfl) hH ?_
                simp only [Act.put, List.setIfInBounds_toArray, List.set_cons_zero, List.set_cons_succ]
                refine skip_to 13 61 rfl (by kernel_rfl) (by kernel_rfl) (by kernel_rfl) (fun _ _ _ h => h) rfl (by rfl) hH ?_
                simp only [Act.put, List.setIfInBounds_toArray, List.set_cons_zero, List.set_cons_succ]
                refine skip_to 14 62 rfl (by kernel_rfl) (by kernel_rfl) (by kernel_rfl) (fun _ _ _ h => h) rfl (by rfl) hH ?_
                simp only [Act.put, List.setIfInBounds_toArray, List.set_cons_zero, List.set_cons_succ]
                refine skip_to 15 63 rfl (by kernel_rfl) (by kernel_rfl) (by kernel_rfl) (fun _ _ _ h => h) rfl (by rfl) hH ?_
                simp only [Act.put, List.setIfInBounds_toArray, List.set_cons_zero, List.set_cons_succ]
                refine skip_to 16 64 rfl (by kernel_rfl) (by kernel_rfl) (by kernel_rfl) (fun _ _ _ h => h) rfl (by rfl) hH ?_
                simp only [Act.put, List.setIfInBounds_toArray, List.set_cons_zero, List.set_cons_succ]
                refine skip_to 17 65 rfl (by kernel_rfl) (by kernel_rfl) (by kernel_rfl) (fun _ _ _ h => h) rfl (by rfl) hH ?_
                simp only [Act.put, List.setIfInBounds_toArray, List.set_cons_zero, List.set_cons_succ]
                refine skip_to 18 66 rfl (by kernel_rfl) (by kernel_rfl) (by kernel_rfl) (fun _ _ _ h => h) rfl (by rfl) hH ?_
                simp only [Act.put, List.setIfInBounds_toArray, List.set_cons_zero, List.set_cons_succ]
                refine skip_to 19 67 rfl (by kernel_rfl) (by kernel_rfl) (by kernel_rfl) (fun _ _ _ h => h) rfl (by rfl) hH ?_
                simp only [Act.put, List.setIfInBounds_toArray, List.set_cons_zero, List.set_cons_succ]
                refine skip_to 20 68 rfl (by kernel_rfl) (by kernel_rfl) (by kernel_rfl) (fun _ _ _ h => h) rfl (by rfl) hH ?_
                simp only [Act.put, List.setIfInBounds_toArray, List.set_cons_zero, List.set_cons_succ]
                refine skip_to 21 69 rfl (by kernel_rfl) (by kernel_rfl) (by kernel_rfl) (fun _ _ _ h => h) rfl (by rfl) hH ?_
                simp only [Act.put, List.setIfInBounds_toArray, List.set_cons_zero, List.set_cons_succ]
                refine skip_to 22 70 rfl (by kernel_rfl) (by kernel_rfl) (by kernel_rfl) (fun _ _ _ h => h) rfl (by rfl) hH ?_
                simp only [Act.put, List.setIfInBounds_toArray, List.set_cons_zero, List.set_cons_succ]
                refine skip_to 23 71 rfl (by kernel_rfl) (by kernel_rfl) (by kernel_rfl) (fun _ _ _ h => h) rfl (by rfl) hH ?_
                simp only [Act.put, List.setIfInBounds_toArray, List.set_cons_zero, List.set_cons_succ]
                refine skip_to 24 72 rfl (by kernel_rfl) (by kernel_rfl) (by kernel_rfl) (fun _ _ _ h => h) rfl (by rfl) hH ?_
                simp only [Act.put, List.setIfInBounds_toArray, List.set_cons_zero, List.set_cons_succ]
                refine take_to 25 73 (.bool false) rfl (by kernel_rfl) (by kernel_rfl) (by kernel_rfl) (fun _ _ _ h => h) rfl (by rfl) (fun w hw => by rfl) hH ?_
                simp only [Act.put, List.setIfInBounds_toArray, List.set_cons_zero, List.set_cons_succ]
                refine wpAnyH_done (by kernel_rfl) ?_ _
                have HE := hide hH
                clear hH hd
                go_wp2
                refine ⟨⟨j + 1, by have := HLJ.out; omega, by go_num, HF.out.miss HZ.out (fun e => hy e.1), HE.out⟩, ?_⟩
                have := HLJ.out
                simp [intOf]
                omega
            · obtain rfl : j = n := by omega
              rcases HF.out with ⟨hp, hno⟩ | ⟨r, z, hp, hz, hmz⟩
              · subst hp
                rw [List.take_of_length_le (by rw [HGN.out]; exact Nat.le_refl _)] at hno
                have HNO := hide hno
                clear hno
                go_upto_region 15 with fail
                have HD : Hid (Below W2.heap.size W2 wr.drew) := HB.out.trans (below_drewN _ _ 1)
                refine wp_region_held_drew (S := fun W => W.cell? ⟨q, oo + k * 2, none⟩ = some (scell t)) (by kernel_rfl) (HS1.out _ HD.out) (fun hH => ?_)
                refine take_to 0 77 (.pointer (some ⟨rt, 0, none⟩)) rfl (by kernel_rfl) (by kernel_rfl) (by kernel_rfl) (fun _ _ _ h => h) rfl (by rfl) (fun w hw => by rfl) hH ?_
                simp only [Act.put, List.setIfInBounds_toArray, List.set_cons_zero, List.set_cons_succ]
                refine take_to 1 78 (.pointer (some ⟨rt, 0, none⟩)) rfl (by kernel_rfl) (by kernel_rfl) (by kernel_rfl) (fun _ _ _ h => h) rfl (by rfl) (fun w hw => by rfl) hH ?_
                simp only [Act.put, List.setIfInBounds_toArray, List.set_cons_zero, List.set_cons_succ]
                refine take_to 2 79 (.pointer (some ⟨rt, 0, none⟩)) rfl (by kernel_rfl) (by kernel_rfl) (by kernel_rfl) (fun _ _ _ h => h) rfl (by rfl) (fun w hw => by rfl) hH ?_
                simp only [Act.put, List.setIfInBounds_toArray, List.set_cons_zero, List.set_cons_succ]
                refine take_to 3 80 (.pointer (some ⟨rt, 0, none⟩)) rfl (by kernel_rfl) (by kernel_rfl) (by kernel_rfl) (fun _ _ _ h => h) rfl (by rfl) (fun w hw => by rfl) hH ?_
                simp only [Act.put, List.setIfInBounds_toArray, List.set_cons_zero, List.set_cons_succ]
                refine take_to 5 82 (.int .i64 id) rfl (by kernel_rfl) (by kernel_rfl) (by kernel_rfl) (fun _ _ _ h => h) rfl (by rfl) (fun w hw => by rfl) hH ?_
                simp only [Act.put, List.setIfInBounds_toArray, List.set_cons_zero, List.set_cons_succ]
                refine take_to 6 83 (.slice (some ⟨q, oo, none⟩) m cl) rfl (by kernel_rfl) (by kernel_rfl) (by kernel_rfl) (fun _ _ _ h => h) rfl (by rfl) (fun w hw => by rfl) hH ?_
                simp only [Act.put, List.setIfInBounds_toArray, List.set_cons_zero, List.set_cons_succ]
                refine take_to 7 84 (.int .i64 (k : Int)) rfl (by kernel_rfl) (by kernel_rfl) (by kernel_rfl) (fun _ _ _ h => h) rfl (by rfl) (fun w hw => by rfl) hH ?_
                simp only [Act.put, List.setIfInBounds_toArray, List.set_cons_zero, List.set_cons_succ]
                refine take_to 8 85 (.pointer (some ⟨q, oo + k * 2, none⟩)) rfl (by kernel_rfl) (by kernel_rfl) (by kernel_rfl) (fun _ _ _ h => h) rfl (by rfl) (fun w hw => op_index _ _ 45 (.tmp 83) (.tmp 84) rfl (.slice (some ⟨q, oo, none⟩) m cl) (.int .i64 (k : Int)) _ rfl rfl (run_index45 w _ _ _ _ _ HLT.out)) hH ?_
                simp only [Act.put, List.setIfInBounds_toArray, List.set_cons_zero, List.set_cons_succ]
                refine take_to 9 86 (.pointer (some ⟨q, oo + k * 2, none⟩)) rfl (by kernel_rfl) (by kernel_rfl) (by kernel_rfl) (fun _ _ _ h => h) rfl (by rfl) (fun w hw => by rfl) hH ?_
                simp only [Act.put, List.setIfInBounds_toArray, List.set_cons_zero, List.set_cons_succ]
                refine take_to 10 87 (scell t) rfl (by kernel_rfl) (by kernel_rfl) (by kernel_rfl) (fun _ _ _ h => h) rfl (by rfl) (fun w hw => op_load _ _ 9 (.tmp 86) rfl (.pointer (some ⟨q, oo + k * 2, none⟩)) _ rfl (run_loadAny w _ _ 9 _ Try.isAgg9 hw)) hH ?_
                simp only [Act.put, List.setIfInBounds_toArray, List.set_cons_zero, List.set_cons_succ]
                refine take_to 11 88 (.int .i64 gl) rfl (by kernel_rfl) (by kernel_rfl) (by kernel_rfl) (fun _ _ _ h => h) rfl (by rfl) (fun w hw => by rfl) hH ?_
                simp only [Act.put, List.setIfInBounds_toArray, List.set_cons_zero, List.set_cons_succ]
                refine take_to 12 89 (.agg #[.int .i64 id, .string (strOf t), .int .i64 gl]) rfl (by kernel_rfl) (by kernel_rfl) (by kernel_rfl) (fun _ _ _ h => h) rfl (by rfl) (fun w hw => op_build81 _ _ (.tmp 82) (.tmp 87) (.tmp 88) rfl id (strOf t) gl rfl rfl rfl) hH ?_
                simp only [Act.put, List.setIfInBounds_toArray, List.set_cons_zero, List.set_cons_succ]
                generalize wr.drew = W3 at *
                have hc3 := HC0.out _ HD.out
                have HNW : Hid ((W3.alloc (.cells #[.int .i64 id, scell t, .int .i64 gl] 81)).heap[W3.heap.size]? = some (.cells #[.int .i64 id, scell t, .int .i64 gl] 81 (0, 0))) := heap_alloc_new _ _
                have HB4 : Hid (Below W2.heap.size W2 (W3.alloc (.cells #[.int .i64 id, scell t, .int .i64 gl] 81))) := HD.out.trans ((Below.refl _ W3).alloc HD.out.size _)
                have hbs : (Instr.buildSlice 39 1 #[(0, .agg #[.int .i64 id, .string (strOf t), .int .i64 gl])]).run Try.prog W3 = .ok (.slice (some ⟨W3.heap.size, 0, none⟩) 1 1) (W3.alloc (.cells #[.int .i64 id, scell t, .int .i64 gl] 81)) := build39 id (strOf t) gl W3
                generalize W3.alloc (.cells #[.int .i64 id, scell t, .int .i64 gl] 81) = W4 at *
                have hc4 := HC0.out _ HB4.out
                have hs4 := HS1.out _ HB4.out
                refine step_two 4 13 81 90 (.slice ag j cg) (.slice (some ⟨W3.heap.size, 0, none⟩) 1 1) W4 rfl rfl (by decide) (by decide) (by kernel_rfl) (by kernel_rfl) (by kernel_rfl) rfl rfl (by rfl) (by rfl) (by rfl) (by rfl)
                  (op_load _ _ 39 (.tmp 80) rfl (.pointer (some ⟨rt, 0, none⟩)) _ rfl (run_loadAny W3 _ _ 39 _ (fun w => by kernel_rfl) hc3))
                  (op_bslice _ _ 39 (.tmp 89) rfl _ _ rfl hbs) (op_bslice _ _ 39 (.tmp 89) rfl _ _ rfl hbs)
                  (op_load _ _ 39 (.tmp 80) rfl (.pointer (some ⟨rt, 0, none⟩)) _ rfl (run_loadAny W4 _ _ 39 _ (fun w => by kernel_rfl) hc4)) hH hs4 ?_
                simp only [Act.put, List.setIfInBounds_toArray, List.set_cons_zero, List.set_cons_succ]
                have ht4 := (HT.out.belowW HB4.out).tab
                have ho4 := ht4.own
                rw [HGN.out] at ho4
                have hlow := ht4.low
                have hltr : rt < W4.heap.size := lt_of_heap ht4.cell
                obtain ⟨vn0, W5, r1, r2, r3, r4⟩ := run_append_hold ho4 39 W3.heap.size (.int .i64 id) (scell t) (.int .i64 gl) rfl rfl rfl HNW.out (by have h1 := HT.out.len; have h2 := HHL.out; have h3 := HLL.out; have h4 := HGN.out; omega) (by omega)
                obtain ⟨an, cn, rfl⟩ := owns_len r2
                have hql : q < W4.heap.size := World.block_lt_of_cell? W4 ⟨q, oo + k * 2, none⟩ hs4
                have hqo : (Value.slice ag j cg).ownBlock ≠ some q := fun e => by
                  rcases HT.out.own q e with e2 | e2
                  · exact HQ.out.2 e2
                  · have := World.block_lt_of_cell? w ⟨q, oo + k * 2, none⟩ (by obtain ⟨q', o', e', h1, h2⟩ := HL.out k (t, md) HX.out; cases e'; exact h1)
                    have this : q < w.heap.size := this
                    omega
                have hs5 : W5.cell? ⟨q, oo + k * 2, none⟩ = some (scell t) := by
                  have hb := r3.block q hql (fun e => hqo e.symm)
                  have : W5.cell? ⟨q, oo + k * 2, none⟩ = W4.cell? ⟨q, oo + k * 2, none⟩ := by simp [World.cell?, hb]
                  rw [this, hs4]
                refine step_to 14 91 (.slice an (j + 1) cn) W5 rfl (by kernel_rfl) rfl (by rfl) (op_append _ _ (.tmp 81) (.tmp 90) 39 rfl _ _ _ rfl rfl r1) hs5 ?_
                simp only [Act.put, List.setIfInBounds_toArray, List.set_cons_zero, List.set_cons_succ]
                refine take_to 15 92 (.pointer (some ⟨rt, 0, none⟩)) rfl (by kernel_rfl) (by kernel_rfl) (by kernel_rfl) (fun _ _ _ h => h) rfl (by rfl) (fun w hw => by rfl) hs5 ?_
                simp only [Act.put, List.setIfInBounds_toArray, List.set_cons_zero, List.set_cons_succ]
                refine take_to 16 93 (.pointer (some ⟨rt, 0, none⟩)) rfl (by kernel_rfl) (by kernel_rfl) (by kernel_rfl) (fun _ _ _ h => h) rfl (by rfl) (fun w hw => by rfl) hs5 ?_
                simp only [Act.put, List.setIfInBounds_toArray, List.set_cons_zero, List.set_cons_succ]
                have hrto : (Value.slice ag j cg).ownBlock ≠ some rt := owns_ne ho4 ht4.cell (by decide)
                have h5 : W5.heap[rt]? = some (.cells #[.slice ag j cg] 41 (0, 0)) := (r3.block rt hltr (fun e => hrto e.symm)).trans ht4.cell
                have hc5 : W5.cell? ⟨rt, 0, none⟩ = some (.slice ag j cg) := by rw [cell_row h5]; rfl
                have hs6 : (W5.setCell ⟨rt, 0, none⟩ (.slice an (j + 1) cn)).cell? ⟨q, oo + k * 2, none⟩ = some (scell t) := by
                  have hb := Below.heap_setCell W5 ⟨rt, 0, none⟩ (.slice an (j + 1) cn) q (fun e => HQ.out.1 e)
                  have : (W5.setCell ⟨rt, 0, none⟩ (.slice an (j + 1) cn)).cell? ⟨q, oo + k * 2, none⟩ = W5.cell? ⟨q, oo + k * 2, none⟩ := by simp [World.cell?, hb]
                  rw [this, hs5]
                refine step_store_to 17 (W5.setCell ⟨rt, 0, none⟩ (.slice an (j + 1) cn)) rfl (by kernel_rfl) rfl (by rfl) 39 (.tmp 93) (.tmp 91) rfl _ _ rfl rfl (run_store39 W5 rt _ an (j + 1) cn hc5 (frozen_row h5)) hs6 ?_
                refine wpAnyH_done (by kernel_rfl) ?_ _
                have HK := hide (HT.out.app (x := (t, md)) HB4.out HX.out HMD.out HNO.out (W5 := W5) (vn := .slice an (j + 1) cn) (by rw [HGN.out]; show W5.ownsRow _ _ _ _ _ (flatH g ++ [.int .i64 id, scell t, .int .i64 (goalF (modeL g id t) L t)]); rw [HGL.out]; exact r2) r3 r4)
                clear r1 r2 r3 r4 hs5 hs6 hc5 h5 hs4 hc4 hc3 hbs ho4 ht4 hH hqo hrto hql
                go_wp2
                refine ⟨⟨k + 1, _, _, by have := HLT.out; omega, by go_num, HK.out⟩, ?_⟩
                have := HLT.out
                simp [intOf]
                omega
              · subst hp
                have hrn : r < j := by rw [← HGN.out]; exact (List.getElem?_eq_some_iff.1 hz).1
                have hrni : (r : Int) < (j : Int) := by omega
                have hneg : ¬ ((r : Int) < 0) := by omega
                obtain ⟨gg, hag, d1, d2, d3⟩ := HC.out r z hz
                subst hag
                have HT2 := hide (HT.out.belowW HB.out)
                have d3' := (HB.out.cell (p := ⟨gg, r * 3 + 2, none⟩) (World.block_lt_of_cell? _ _ d3)).trans d3
                have HK := hide (HT2.out.set (x := (t, md)) HGN.out HX.out HMD.out hz hmz)
                have hfz : wr.frozen? ⟨gg, r * 3 + 2, none⟩ = false := by
                  have ho := HT2.out.tab.own
                  rw [HGN.out] at ho
                  exact (own_mode ho hz hrn 0).1
                change Hid (TkAt w base rt v id L hs (k + 1) (g.set r (id, t, goalF (modeL g id t) L t)) (.slice (some ⟨gg, 0, none⟩) j cg) (wr.setCell ⟨gg, r * 3 + 2, none⟩ (.int .i64 (goalF (modeL g id t) L t)))) at HK
                rw [HGL.out] at HK
                clear d1 d2 d3 hz hmz
                go_wp2
                refine ⟨⟨k + 1, _, _, by have := HLT.out; omega, by go_num, HK.out⟩, ?_⟩
                have := HLT.out
                simp [intOf]
                omega
        · have hmd' : isMode md = false := by simpa using hmd
          have HMD := hide hmd'
          go_wp2_with (go_at_call 38; refine (H38.out _ _).mono ?_; rintro e x2 ⟨rfl, hw2⟩; obtain rfl := hw2.symm)
          refine ⟨⟨k + 1, g, v', by omega, by go_num, HT.out.skip HX.out HMD.out⟩, ?_⟩
          simp [intOf]
          omega
      · obtain rfl : k = m := by omega
        go_wp2
        go_ret
        exact ⟨[], g, v', HA1.out, rfl, fun e => absurd rfl e, fun _ => HT.out⟩
end Go.Proofs.Ytffjdjbjkjefoaa
