/- What the document's Crash does. -/
import Derived.Test.YtkdlggobbkedmaaRefSync
namespace Go.Proofs.Ytkdlggobbkedmaa
open Go.RowKit
set_option linter.unusedVariables false
set_option linter.unusedSimpArgs false

theorem rcrashed_is {w : World} {p : Nat} {fp : List Nat} {D : Dv} {lv cv : Value} (h : RefIs w p fp D lv cv) :
    RefIs (((w.setCell ⟨p, 1, none⟩ (.slice none 0 0)).setCell ⟨p, 3, none⟩ (.bool false)).setCell ⟨p, 2, none⟩ (.int .i64 (-1))) p fp { D with W := [], dead := false, fuse := -1 } lv (.slice none 0 0) := by
  have h1 := h.drop
  have h2 := h1.heads 3 (.bool false) { D with W := [], dead := false } rfl rfl rfl
  exact h2.heads 2 (.int .i64 (-1)) { D with W := [], dead := false, fuse := -1 } rfl rfl rfl

set_option maxHeartbeats 2000000 in
set_option maxRecDepth 100000 in
theorem rcrash_dev (p : Nat) (ko : Option Addr) (kc : Nat) (ks : List Bool) (w : World) (fp : List Nat) (D : Dv) (h : RefAt w p fp D) (hpos : 1 ≤ D.L.length) (hW : ∀ x ∈ D.W, x.1 < D.L.length) (hm : D.W.length < 1000000) (hkl : ks.length ≤ 9223372036854775807)
    (hks : KeepAt w fp ko ks) :
    Calls Try.prog 18 #[.pointer (some ⟨p, 0, none⟩), .slice ko ks.length kc] w fun e w' => e = .returned (.tuple #[]) ∧ RefAt w' p fp (D.crashed ks) ∧ Off fp w w' := by
  obtain ⟨lv, cv, h⟩ := h
  have hinP := h.inP
  have HW := hide hW
  have HK := hide hks
  clear hW hks
  obtain ⟨lb, lc, hlv⟩ := h.formL hpos
  subst hlv
  obtain ⟨co, cc, hcv⟩ := own_len h.cache
  subst hcv
  have hinL : lb ∈ fp := h.inL lb rfl
  go_enter Try.func18, Try.ntmps18
  go_wp2_with fail
  go_loopw [4] (fun i wr => ∃ k : Nat, k ≤ D.W.length ∧ i = .int .i64 k ∧ RefIs wr p fp { D with L := laidOver D.L (kept D.W ks k) } (.slice (some ⟨lb, 0, none⟩) D.L.length lc) (.slice co D.W.length cc) ∧ Off fp w wr) (fun i _ => D.W.length - (intOf i).toNat)
  case atStart => exact ⟨0, Nat.zero_le _, rfl, h, Off.refl _ _⟩
  case round =>
    clear h
    obtain ⟨k, hk, rfl, h3, hO3⟩ := hrel
    have k1 := h3.c1
    by_cases hlt : k < D.W.length
    rotate_left
    · have f1 := h3.fz 1
      have k3 := h3.c3
      have f3 := h3.fz 3
      have k2 := h3.c2
      have f2 := h3.fz 2
      have hk2 : k = D.W.length := by omega
      have h5 := rcrashed_is h3
      have H5 : Hid (RefAt (((wr.setCell ⟨p, 1, none⟩ (.slice none 0 0)).setCell ⟨p, 3, none⟩ (.bool false)).setCell ⟨p, 2, none⟩ (.int .i64 (-1))) p fp (D.crashed ks)) := by
        show RefAt _ _ _ _
        rw [hk2] at h5
        exact ⟨_, _, h5⟩
      clear hk2 h5
      go_wp2_with fail
      go_end0
      exact ⟨rfl, H5.out, ((hO3.setCell _ _ (.inl hinP)).setCell _ _ (.inl hinP)).setCell _ _ (.inl hinP)⟩
    by_cases hkn : k < ks.length
    · obtain ⟨kb, o, hko, hkf, hksz, hkc⟩ := HK.out k hkn
      subst hko
      have hkc3 : wr.cell? ⟨kb, o + k, none⟩ = some (.bool (ks.getD k false)) := (World.cell?_of_block (hO3.block kb hksz hkf)).trans hkc
      clear hkc
      by_cases hyes : ks.getD k false = true
      rotate_left
      · have hno : ks.getD k false = false := by simpa using hyes
        rw [hno] at hkc3
        have HN := hide hno
        clear hyes hno
        go_wp2_with fail
        go_roundw
        case rel => exact ⟨k + 1, by omega, by go_num, by rw [kept_no _ _ _ HN.out]; exact h3, hO3⟩
        case measure => simp [intOf]; omega
      rw [hyes] at hkc3
      have HY := hide hyes
      clear hyes
      have hlen : (laidOver D.L (kept D.W ks k)).length = D.L.length := length_laidOver _ _
      have HX := hide (HW.out D.W[k] (List.getElem_mem hlt))
      obtain ⟨cb, hcb⟩ : ∃ cb, co = some ⟨cb, 0, none⟩ := by
        rcases h3.formC with ⟨_, hW⟩ | ⟨cb, c, hc⟩
        · have : D.W = [] := hW
          rw [this] at hlt; simp at hlt
        · injection hc with e1 _ _; exact ⟨cb, e1⟩
      subst hcb
      have hpl : p ≠ lb := fun e => h3.ne1 (by simp [Value.ownBlock, e])
      have hcl : cb ≠ lb := fun e => h3.ne3 lb rfl (by simp [Value.ownBlock, e])
      have h3' : RefIs wr p fp { D with L := laidOver D.L (kept D.W ks k) } (.slice (some ⟨lb, 0, none⟩) (laidOver D.L (kept D.W ks k)).length lc) (.slice (some ⟨cb, 0, none⟩) D.W.length cc) := by rw [hlen]; exact h3
      obtain ⟨e0, e1⟩ := h3.entAt k hlt
      obtain ⟨w5, hrun, h5, hO5⟩ := RefIs.lay (h3'.below ((Below.refl _ wr).drew)) D.W[k].1 (by show _ < (laidOver D.L (kept D.W ks k)).length; rw [hlen]; exact HX.out) D.W[k].2
      have HLN := hide hlen
      clear hlen h3'
      go_wp2_with fail
      refine wp_region_held_drew (S := fun w' => w'.heap[p]? = wr.heap[p]? ∧ w'.heap[cb]? = wr.heap[cb]?) (by kernel_rfl) ⟨rfl, rfl⟩ (fun hH => ?_)
      refine take_to 0 24 (.pointer (some ⟨p, 0, none⟩)) rfl (by kernel_rfl) (by kernel_rfl) (by kernel_rfl) (fun _ _ _ h => h) rfl (by rfl) (fun w _ => by rfl) hH ?_
      simp only [Act.put, List.setIfInBounds_toArray, List.set_cons_zero, List.set_cons_succ]
      refine take_to 1 25 (.pointer (some ⟨p, 0, none⟩)) rfl (by kernel_rfl) (by kernel_rfl) (by kernel_rfl) (fun _ _ _ h => h) rfl (by rfl) (fun w _ => by rfl) hH ?_
      simp only [Act.put, List.setIfInBounds_toArray, List.set_cons_zero, List.set_cons_succ]
      refine take_to 2 26 (.pointer (some ⟨p, 0, none⟩)) rfl (by kernel_rfl) (by kernel_rfl) (by kernel_rfl) (fun _ _ _ h => h) rfl (by rfl) (fun w _ => by kernel_rfl) hH ?_
      simp only [Act.put, List.setIfInBounds_toArray, List.set_cons_zero, List.set_cons_succ]
      refine take_to 3 27 (.slice (some ⟨lb, 0, none⟩) D.L.length lc) rfl (by kernel_rfl) (by kernel_rfl) (by kernel_rfl) (fun _ _ _ h => h) rfl (by rfl) (fun w hw => op_load _ _ 54 (.tmp 26) rfl (.pointer (some ⟨p, 0, none⟩)) _ rfl (run_load54 w p _ ((World.cell?_of_block hw.1).trans h3.c0))) hH ?_
      simp only [Act.put, List.setIfInBounds_toArray, List.set_cons_zero, List.set_cons_succ]
      refine take_to 4 28 (.pointer (some ⟨p, 0, none⟩)) rfl (by kernel_rfl) (by kernel_rfl) (by kernel_rfl) (fun _ _ _ h => h) rfl (by rfl) (fun w _ => by rfl) hH ?_
      simp only [Act.put, List.setIfInBounds_toArray, List.set_cons_zero, List.set_cons_succ]
      refine take_to 5 29 (.pointer (some ⟨p, 0, none⟩)) rfl (by kernel_rfl) (by kernel_rfl) (by kernel_rfl) (fun _ _ _ h => h) rfl (by rfl) (fun w _ => by rfl) hH ?_
      simp only [Act.put, List.setIfInBounds_toArray, List.set_cons_zero, List.set_cons_succ]
      refine take_to 6 30 (.pointer (some ⟨p, 1, none⟩)) rfl (by kernel_rfl) (by kernel_rfl) (by kernel_rfl) (fun _ _ _ h => h) rfl (by rfl) (fun w _ => by kernel_rfl) hH ?_
      simp only [Act.put, List.setIfInBounds_toArray, List.set_cons_zero, List.set_cons_succ]
      refine take_to 7 31 (.slice (some ⟨cb, 0, none⟩) D.W.length cc) rfl (by kernel_rfl) (by kernel_rfl) (by kernel_rfl) (fun _ _ _ h => h) rfl (by rfl) (fun w hw => op_load _ _ 55 (.tmp 30) rfl (.pointer (some ⟨p, 1, none⟩)) _ rfl (run_load55 w p _ ((World.cell?_of_block hw.1).trans h3.c1))) hH ?_
      simp only [Act.put, List.setIfInBounds_toArray, List.set_cons_zero, List.set_cons_succ]
      refine take_to 8 32 (.int .i64 (k : Int)) rfl (by kernel_rfl) (by kernel_rfl) (by kernel_rfl) (fun _ _ _ h => h) rfl (by rfl) (fun w _ => by rfl) hH ?_
      simp only [Act.put, List.setIfInBounds_toArray, List.set_cons_zero, List.set_cons_succ]
      refine take_to 9 33 (.pointer (some ⟨cb, k * 2, none⟩)) rfl (by kernel_rfl) (by kernel_rfl) (by kernel_rfl) (fun _ _ _ h => h) rfl (by rfl) (fun w _ => op_index _ _ 55 (.tmp 31) (.tmp 32) rfl _ _ _ rfl rfl (run_index55 w cb _ cc k hlt)) hH ?_
      simp only [Act.put, List.setIfInBounds_toArray, List.set_cons_zero, List.set_cons_succ]
      refine take_to 10 34 (.pointer (some ⟨cb, k * 2, none⟩)) rfl (by kernel_rfl) (by kernel_rfl) (by kernel_rfl) (fun _ _ _ h => h) rfl (by rfl) (fun w _ => by kernel_rfl) hH ?_
      simp only [Act.put, List.setIfInBounds_toArray, List.set_cons_zero, List.set_cons_succ]
      refine take_to 11 35 (.int .i64 (D.W[k].1 : Int)) rfl (by kernel_rfl) (by kernel_rfl) (by kernel_rfl) (fun _ _ _ h => h) rfl (by rfl) (fun w hw => op_load _ _ 3 (.tmp 34) rfl (.pointer (some ⟨cb, k * 2, none⟩)) _ rfl (run_load3 w cb (k * 2) _ ((World.cell?_of_block hw.2).trans e0))) hH ?_
      simp only [Act.put, List.setIfInBounds_toArray, List.set_cons_zero, List.set_cons_succ]
      refine take_to 12 36 (.pointer (some ⟨p, 0, none⟩)) rfl (by kernel_rfl) (by kernel_rfl) (by kernel_rfl) (fun _ _ _ h => h) rfl (by rfl) (fun w _ => by rfl) hH ?_
      simp only [Act.put, List.setIfInBounds_toArray, List.set_cons_zero, List.set_cons_succ]
      refine take_to 13 37 (.pointer (some ⟨p, 0, none⟩)) rfl (by kernel_rfl) (by kernel_rfl) (by kernel_rfl) (fun _ _ _ h => h) rfl (by rfl) (fun w _ => by rfl) hH ?_
      simp only [Act.put, List.setIfInBounds_toArray, List.set_cons_zero, List.set_cons_succ]
      refine take_to 14 38 (.pointer (some ⟨p, 1, none⟩)) rfl (by kernel_rfl) (by kernel_rfl) (by kernel_rfl) (fun _ _ _ h => h) rfl (by rfl) (fun w _ => by kernel_rfl) hH ?_
      simp only [Act.put, List.setIfInBounds_toArray, List.set_cons_zero, List.set_cons_succ]
      refine take_to 15 39 (.slice (some ⟨cb, 0, none⟩) D.W.length cc) rfl (by kernel_rfl) (by kernel_rfl) (by kernel_rfl) (fun _ _ _ h => h) rfl (by rfl) (fun w hw => op_load _ _ 55 (.tmp 38) rfl (.pointer (some ⟨p, 1, none⟩)) _ rfl (run_load55 w p _ ((World.cell?_of_block hw.1).trans h3.c1))) hH ?_
      simp only [Act.put, List.setIfInBounds_toArray, List.set_cons_zero, List.set_cons_succ]
      refine take_to 16 40 (.int .i64 (k : Int)) rfl (by kernel_rfl) (by kernel_rfl) (by kernel_rfl) (fun _ _ _ h => h) rfl (by rfl) (fun w _ => by rfl) hH ?_
      simp only [Act.put, List.setIfInBounds_toArray, List.set_cons_zero, List.set_cons_succ]
      refine take_to 17 41 (.pointer (some ⟨cb, k * 2, none⟩)) rfl (by kernel_rfl) (by kernel_rfl) (by kernel_rfl) (fun _ _ _ h => h) rfl (by rfl) (fun w _ => op_index _ _ 55 (.tmp 39) (.tmp 40) rfl _ _ _ rfl rfl (run_index55 w cb _ cc k hlt)) hH ?_
      simp only [Act.put, List.setIfInBounds_toArray, List.set_cons_zero, List.set_cons_succ]
      refine take_to 18 42 (.pointer (some ⟨cb, k * 2 + 1, none⟩)) rfl (by kernel_rfl) (by kernel_rfl) (by kernel_rfl) (fun _ _ _ h => h) rfl (by rfl) (fun w _ => by kernel_rfl) hH ?_
      simp only [Act.put, List.setIfInBounds_toArray, List.set_cons_zero, List.set_cons_succ]
      refine take_to 19 43 (.string (strOf D.W[k].2)) rfl (by kernel_rfl) (by kernel_rfl) (by kernel_rfl) (fun _ _ _ h => h) rfl (by rfl) (fun w hw => op_load _ _ 9 (.tmp 42) rfl (.pointer (some ⟨cb, k * 2 + 1, none⟩)) _ rfl (run_load9 w cb (k * 2 + 1) _ ((World.cell?_of_block hw.2).trans e1))) hH ?_
      simp only [Act.put, List.setIfInBounds_toArray, List.set_cons_zero, List.set_cons_succ]
      refine take_to 20 44 (.pointer (some ⟨lb, D.W[k].1, none⟩)) rfl (by kernel_rfl) (by kernel_rfl) (by kernel_rfl) (fun _ _ _ h => h) rfl (by rfl) (fun w _ => op_index _ _ 54 (.tmp 27) (.tmp 35) rfl _ _ _ rfl rfl (run_index54 w lb _ lc _ HX.out)) hH ?_
      simp only [Act.put, List.setIfInBounds_toArray, List.set_cons_zero, List.set_cons_succ]
      refine step_store_to 21 w5 rfl (by kernel_rfl) rfl (by rfl) 9 (.tmp 44) (.tmp 43) rfl _ _ rfl rfl hrun ?_ ?_
      · exact ⟨hO5.block p h3.lt (by simpa using hpl), hO5.block cb (h3.cache.lt cb rfl).2 (by simpa using hcl)⟩
      refine wpAnyH_done (by kernel_rfl) ?_ _
      have hO6 : Off fp w w5 := (hO3.drew).trans hO5 (by simpa using Or.inl hinL)
      have hsn : (laidOver D.L (kept D.W ks k)).set D.W[k].1 D.W[k].2 = laidOver D.L (kept D.W ks (k + 1)) := by
        rw [kept_yes _ _ _ hlt HY.out, laidOver_snoc]
      have h6 : RefIs w5 p fp { D with L := laidOver D.L (kept D.W ks (k + 1)) } (.slice (some ⟨lb, 0, none⟩) D.L.length lc) (.slice (some ⟨cb, 0, none⟩) D.W.length cc) := by
        rw [← hsn, ← HLN.out]; exact h5
      have H6 := hide h6
      clear h6 hsn h5 hrun e0 e1 hH k1 hkc3
      go_wp2_with fail
      go_roundw
      case rel => exact ⟨k + 1, by omega, by go_num, H6.out, hO6⟩
      case measure => simp [intOf]; omega
    · have HN : Hid (ks.getD k false = false) := by show _ = _; rw [List.getD_eq_getElem?_getD, List.getElem?_eq_none (by omega)]; rfl
      go_wp2_with fail
      go_roundw
      case rel => exact ⟨k + 1, by omega, by go_num, by rw [kept_no _ _ _ HN.out]; exact h3, hO3⟩
      case measure => simp [intOf]; omega
end Go.Proofs.Ytkdlggobbkedmaa
