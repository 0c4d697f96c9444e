/- What Crash does: of the writes of the cache those that 'keep' says are made lasting, the cache is empty, the device is alive and has no fuse. -/
import Derived.Test.YtkdlggobbkedmaaSync
namespace Go.Proofs.Ytkdlggobbkedmaa
open Go.RowKit
set_option linter.unusedVariables false
set_option linter.unusedSimpArgs false

def kept (W : List (Nat × List UInt8)) (ks : List Bool) (k : Nat) : List (Nat × List UInt8) := (List.range k).filterMap fun i => if ks.getD i false = true then W[i]? else none
theorem kept_yes (W : List (Nat × List UInt8)) (ks : List Bool) (k : Nat) (hk : k < W.length) (h : ks.getD k false = true) : kept W ks (k + 1) = kept W ks k ++ [W[k]] := by
  unfold kept
  rw [List.range_succ, List.filterMap_append]
  simp [h, hk, - List.getD_eq_getElem?_getD]
theorem kept_no (W : List (Nat × List UInt8)) (ks : List Bool) (k : Nat) (h : ks.getD k false = false) : kept W ks (k + 1) = kept W ks k := by
  unfold kept
  rw [List.range_succ, List.filterMap_append]
  simp [h, - List.getD_eq_getElem?_getD]
def Dv.crashed (D : Dv) (ks : List Bool) : Dv := { D with L := laidOver D.L (kept D.W ks D.W.length), W := [], dead := false, fuse := -1 }

/-- The list of bools lies in a block that is none of the device's. -/
def KeepAt (w : World) (fp : List Nat) (ko : Option Addr) (ks : List Bool) : Prop :=
  ∀ k (_ : k < ks.length), ∃ kb o, ko = some ⟨kb, o, none⟩ ∧ kb ∉ fp ∧ kb < w.heap.size ∧ w.cell? ⟨kb, o + k, none⟩ = some (.bool (ks.getD k false))

theorem crashed_is {w : World} {p lb lcap : Nat} {fp : List Nat} {D : Dv} {cv : Value} (h : DevIs w p fp D lb lcap cv) :
    DevIs (((w.setCell ⟨p, 1, none⟩ (.slice none 0 0)).setCell ⟨p, 3, none⟩ (.bool false)).setCell ⟨p, 2, none⟩ (.int .i64 (-1))) p fp { D with W := [], dead := false, fuse := -1 } lb lcap (.slice none 0 0) := by
  have h1 := h.drop
  have h2 := h1.heads 3 (.bool false) { D with W := [], dead := false } rfl rfl ⟨h1.wf.pos, h1.wf.max, h1.wf.sec, h1.wf.ent, h1.wf.lo, h1.wf.hi⟩ rfl
  exact h2.heads 2 (.int .i64 (-1)) { D with W := [], dead := false, fuse := -1 } rfl rfl ⟨h1.wf.pos, h1.wf.max, h1.wf.sec, h1.wf.ent, by simp, by simp⟩ rfl

set_option maxHeartbeats 2000000 in
set_option maxRecDepth 100000 in
theorem crash_some (p : Nat) (ko : Option Addr) (kc : Nat) (ks : List Bool) (w : World) (fp : List Nat) (D : Dv) (lb lcap cb c : Nat) (h : DevIs w p fp D lb lcap (.slice (some ⟨cb, 0, none⟩) D.W.length c)) (hm : D.W.length < 1000000) (hkl : ks.length ≤ 9223372036854775807)
    (hks : KeepAt w fp ko ks) :
    Calls Try.prog 17 #[.pointer (some ⟨p, 0, none⟩), .slice ko ks.length kc] w fun e w' => e = .returned (.tuple #[]) ∧ DevAt w' p fp (D.crashed ks) ∧ Off fp w w' := by
  have hinP := h.inP
  have hinL := h.inL
  have k1 := h.c1
  have HK := hide hks
  clear hks
  go_enter Try.func17, Try.ntmps17
  go_wp2
  clear k1
  go_loopw [11] (fun i wr => ∃ k : Nat, k ≤ D.W.length ∧ i = .int .i64 k ∧ DevIs wr p fp { D with L := laidOver D.L (kept D.W ks k) } lb lcap (.slice (some ⟨cb, 0, none⟩) D.W.length c) ∧ Off fp w wr) (fun i _ => D.W.length - (intOf i).toNat)
  case atStart => exact ⟨0, Nat.zero_le _, rfl, h, Off.refl _ _⟩
  case round =>
    clear h
    obtain ⟨k, hk, rfl, h3, hO3⟩ := hrel
    by_cases hlt : k < D.W.length
    rotate_left
    · have k1 := h3.c1
      have f1 := h3.fz 1
      have k3 := h3.c3
      have f3 := h3.fz 3
      have k2 := h3.c2
      have f2 := h3.fz 2
      have hk2 : k = D.W.length := by omega
      have h5 := crashed_is h3
      have H5 : Hid (DevAt (((wr.setCell ⟨p, 1, none⟩ (.slice none 0 0)).setCell ⟨p, 3, none⟩ (.bool false)).setCell ⟨p, 2, none⟩ (.int .i64 (-1))) p fp (D.crashed ks)) := by
        show DevAt _ _ _ _
        rw [hk2] at h5
        exact ⟨_, _, _, h5⟩
      clear hk2 h5
      go_wp2
      go_end0
      exact ⟨rfl, H5.out, ((hO3.setCell _ _ (.inl hinP)).setCell _ _ (.inl hinP)).setCell _ _ (.inl hinP)⟩
    have HX := hide (h3.wf.ent D.W[k] (List.getElem_mem hlt))
    have HR := hide (h3.entAt k hlt)
    have HE : Hid ((entOf D.W[k]).length = 129) := by show _ = _; simp [entOf, length_secCells, HX.out.2]
    have HZ : Hid (zeroEnt.size = (entOf D.W[k]).toArray.size) := by show _ = _; exact (size_ent 0 zeros length_zeros).trans HE.out.symm
    have z81 := Try.zero81
    obtain ⟨W3, hW3⟩ : ∃ W3, (wr.alloc (.cells zeroEnt 81)).setRow wr.heap.size (entOf D.W[k]).toArray = W3 := ⟨_, rfl⟩
    have hB3 : Below wr.heap.size wr W3 := by
      rw [← hW3]
      exact below_setRow ((Below.refl _ _).alloc (Nat.le_refl _) _) (Nat.le_refl _) _
    have hG : W3.heap[wr.heap.size]? = some (.cells (entOf D.W[k]).toArray 81 (0, 0)) := by
      rw [← hW3]; exact setRow_heap _ _ _ _ _ _ (heap_alloc_new _ _)
    have h4 := h3.below hB3
    have hO4 : Off fp w W3 := hO3.trans (Off.of_below hB3 []) (by simp)
    by_cases hkn : k < ks.length
    · obtain ⟨kb, o, hko, hkf, hks, hkc⟩ := HK.out k hkn
      subst hko
      have hkc3 : W3.cell? ⟨kb, o + k, none⟩ = some (.bool (ks.getD k false)) := (World.cell?_of_block (hO4.block kb hks hkf)).trans hkc
      clear hkc
      by_cases hyes : ks.getD k false = true
      rotate_left
      · have hno : ks.getD k false = false := by simpa using hyes
        rw [hno] at hkc3
        have HN := hide hno
        clear hyes hno
        go_wp2_with (first
          | (refine wpList_load_mid rfl 81 _ rfl cb (k * 129) rfl (entOf D.W[k]) _ HR.out Try.underlying81 rfl (Try.size81 HE.out) ?_)
          | (refine wpList_store_row rfl 81 _ _ rfl wr.heap.size (entOf D.W[k]).toArray rfl rfl 81 zeroEnt (heap_alloc_new _ _) (Try.size81' HE.out) HZ.out (all_oneCell_toArray (one_entOf _)) ?_))
        go_roundw
        case rel => exact ⟨k + 1, by omega, by go_num, by rw [kept_no _ _ _ HN.out]; exact h4, hO4⟩
        case measure => simp [intOf]; omega
      rw [hyes] at hkc3
      have HY := hide hyes
      clear hyes
      go_wp2_with (first
        | (refine wpList_load_mid rfl 81 _ rfl cb (k * 129) rfl (entOf D.W[k]) _ HR.out Try.underlying81 rfl (Try.size81 HE.out) ?_)
        | (refine wpList_store_row rfl 81 _ _ rfl wr.heap.size (entOf D.W[k]).toArray rfl rfl 81 zeroEnt (heap_alloc_new _ _) (Try.size81' HE.out) HZ.out (all_oneCell_toArray (one_entOf _)) ?_))
      clear hkc3
      have hlb : lb ≠ wr.heap.size := fun e => by have := h3.ltL; omega
      have hpb : p ≠ wr.heap.size := fun e => by have := h3.lt; omega
      generalize wr.heap.size = b at *
      clear hW3 hB3 h3 hO3 HR HZ z81
      have kb0 : W3.cell? ⟨b, 0, none⟩ = some (.int .i64 (D.W[k].1 : Int)) := by rw [cell_of_row _ _ _ _ _ _ hG]; rfl
      have kb1 : W3.rangeAt b 1 (secCells D.W[k].2) := fun j v hv => by
        rw [cell_of_row _ _ _ _ _ _ hG, Nat.add_comm]
        simpa [entOf] using hv
      have HL : Hid ((secCells D.W[k].2).length = 128) := by show _ = _; rw [length_secCells]; exact HX.out.2
      obtain ⟨w5, hrun, h5, hO5⟩ := (h4.below ((Below.refl _ W3).drew)).lay D.W[k].1 HX.out.1 D.W[k].2 HX.out.2
      refine wp_region_held_drew (S := fun w' => w'.heap[p]? = W3.heap[p]? ∧ w'.heap[b]? = W3.heap[b]?) (by kernel_rfl) ⟨rfl, rfl⟩ (fun hH => ?_)
      refine take_to 0 26 (.pointer (some ⟨p, 0, none⟩)) rfl (by kernel_rfl) (by kernel_rfl) (by kernel_rfl) (fun _ _ _ h => h) rfl (by rfl) (fun w _ => by rfl) hH ?_
      simp only [Act.put, List.setIfInBounds_toArray, List.set_cons_zero, List.set_cons_succ]
      refine take_to 1 27 (.pointer (some ⟨p, 0, none⟩)) rfl (by kernel_rfl) (by kernel_rfl) (by kernel_rfl) (fun _ _ _ h => h) rfl (by rfl) (fun w _ => by rfl) hH ?_
      simp only [Act.put, List.setIfInBounds_toArray, List.set_cons_zero, List.set_cons_succ]
      refine take_to 2 28 (.pointer (some ⟨p, 0, none⟩)) rfl (by kernel_rfl) (by kernel_rfl) (by kernel_rfl) (fun _ _ _ h => h) rfl (by rfl) (fun w _ => by kernel_rfl) hH ?_
      simp only [Act.put, List.setIfInBounds_toArray, List.set_cons_zero, List.set_cons_succ]
      refine take_to 3 29 (.slice (some ⟨lb, 0, none⟩) (laidOver D.L (kept D.W ks k)).length lcap) rfl (by kernel_rfl) (by kernel_rfl) (by kernel_rfl) (fun _ _ _ h => h) rfl (by rfl) (fun w hw => op_load _ _ 62 (.tmp 28) rfl (.pointer (some ⟨p, 0, none⟩)) _ rfl (run_load62 w p _ ((World.cell?_of_block hw.1).trans h4.c0))) hH ?_
      simp only [Act.put, List.setIfInBounds_toArray, List.set_cons_zero, List.set_cons_succ]
      refine take_to 4 30 (.pointer (some ⟨b, 0, none⟩)) rfl (by kernel_rfl) (by kernel_rfl) (by kernel_rfl) (fun _ _ _ h => h) rfl (by rfl) (fun w _ => by kernel_rfl) hH ?_
      simp only [Act.put, List.setIfInBounds_toArray, List.set_cons_zero, List.set_cons_succ]
      refine take_to 5 31 (.int .i64 (D.W[k].1 : Int)) rfl (by kernel_rfl) (by kernel_rfl) (by kernel_rfl) (fun _ _ _ h => h) rfl (by rfl) (fun w hw => op_load _ _ 3 (.tmp 30) rfl (.pointer (some ⟨b, 0, none⟩)) _ rfl (run_load3 w b 0 _ ((World.cell?_of_block hw.2).trans kb0))) hH ?_
      simp only [Act.put, List.setIfInBounds_toArray, List.set_cons_zero, List.set_cons_succ]
      refine take_to 6 32 (.pointer (some ⟨b, 1, none⟩)) rfl (by kernel_rfl) (by kernel_rfl) (by kernel_rfl) (fun _ _ _ h => h) rfl (by rfl) (fun w _ => by kernel_rfl) hH ?_
      simp only [Act.put, List.setIfInBounds_toArray, List.set_cons_zero, List.set_cons_succ]
      refine take_to 7 33 (.agg (secCells D.W[k].2).toArray) rfl (by kernel_rfl) (by kernel_rfl) (by kernel_rfl) (fun _ _ _ h => h) rfl (by rfl) (fun w hw => op_load _ _ 79 (.tmp 32) rfl (.pointer (some ⟨b, 1, none⟩)) _ rfl (run_loadAt_mid w b 1 79 _ _ (fun j v hv => (World.cell?_of_block hw.2).trans (kb1 j v hv)) Try.underlying79 rfl (Try.size79 HL.out))) hH ?_
      simp only [Act.put, List.setIfInBounds_toArray, List.set_cons_zero, List.set_cons_succ]
      refine take_to 8 34 (.pointer (some ⟨lb, D.W[k].1 * 128, none⟩)) rfl (by kernel_rfl) (by kernel_rfl) (by kernel_rfl) (fun _ _ _ h => h) rfl (by rfl) (fun w _ => op_index _ _ 62 (.tmp 29) (.tmp 31) rfl _ _ _ rfl rfl (run_index62 w lb _ lcap _ HX.out.1)) hH ?_
      simp only [Act.put, List.setIfInBounds_toArray, List.set_cons_zero, List.set_cons_succ]
      refine step_store_to 9 w5 rfl (by kernel_rfl) rfl (by rfl) 79 (.tmp 34) (.tmp 33) rfl _ _ rfl rfl hrun ?_ ?_
      · exact ⟨hO5.block p h4.lt (by simp [h4.ne1]), hO5.block b (Array.getElem?_eq_some_iff.1 hG).1 (by simp; omega)⟩
      refine wpAnyH_done (by kernel_rfl) ?_ _
      have hO6 : Off fp w w5 := (hO4.drew).trans hO5 (by simpa using Or.inl hinL)
      have hsn : (laidOver D.L (kept D.W ks k)).set D.W[k].1 D.W[k].2 = laidOver D.L (kept D.W ks (k + 1)) := by
        rw [kept_yes _ _ _ hlt HY.out, laidOver_snoc]
      have h6 : DevIs w5 p fp { D with L := laidOver D.L (kept D.W ks (k + 1)) } lb lcap (.slice (some ⟨cb, 0, none⟩) D.W.length c) := by rw [← hsn]; exact h5
      have H6 := hide h6
      clear h6 hsn h5 hrun kb0 kb1 hH
      go_wp2
      go_roundw
      case rel => exact ⟨k + 1, by omega, by go_num, H6.out, hO6⟩
      case measure => simp [intOf]; omega
    · have HN : Hid (ks.getD k false = false) := by show _ = _; rw [List.getD_eq_getElem?_getD, List.getElem?_eq_none (by omega)]; rfl
      go_wp2_with (first
        | (refine wpList_load_mid rfl 81 _ rfl cb (k * 129) rfl (entOf D.W[k]) _ HR.out Try.underlying81 rfl (Try.size81 HE.out) ?_)
        | (refine wpList_store_row rfl 81 _ _ rfl wr.heap.size (entOf D.W[k]).toArray rfl rfl 81 zeroEnt (heap_alloc_new _ _) (Try.size81' HE.out) HZ.out (all_oneCell_toArray (one_entOf _)) ?_))
      go_roundw
      case rel => exact ⟨k + 1, by omega, by go_num, by rw [kept_no _ _ _ HN.out]; exact h4, hO4⟩
      case measure => simp [intOf]; omega

set_option maxHeartbeats 400000 in
set_option maxRecDepth 100000 in
theorem crash_nil (p : Nat) (ko : Option Addr) (kc : Nat) (ks : List Bool) (w : World) (fp : List Nat) (D : Dv) (lb lcap : Nat) (h : DevIs w p fp D lb lcap (.slice none 0 0)) (hW : D.W = []) :
    Calls Try.prog 17 #[.pointer (some ⟨p, 0, none⟩), .slice ko ks.length kc] w fun e w' => e = .returned (.tuple #[]) ∧ DevAt w' p fp (D.crashed ks) ∧ Off fp w w' := by
  have hinP := h.inP
  have k1 := h.c1
  have f1 := h.fz 1
  have k3 := h.c3
  have f3 := h.fz 3
  have k2 := h.c2
  have f2 := h.fz 2
  have h5 := crashed_is h
  have H5 : Hid (DevAt (((w.setCell ⟨p, 1, none⟩ (.slice none 0 0)).setCell ⟨p, 3, none⟩ (.bool false)).setCell ⟨p, 2, none⟩ (.int .i64 (-1))) p fp (D.crashed ks)) := by
    show DevAt _ _ _ _
    have : D.crashed ks = { D with W := [], dead := false, fuse := -1 } := by simp [Dv.crashed, hW, kept, laidOver]
    rw [this]
    exact ⟨_, _, _, h5⟩
  clear hW h5
  go_enter Try.func17, Try.ntmps17
  go_wp2
  go_loop [11] (fun i => i = .int .i64 0) (fun _ => 0)
  case atStart => rfl
  case round =>
    subst hrel
    go_wp2
    go_end0
    exact ⟨rfl, H5.out, (((Off.refl fp w).setCell _ _ (.inl hinP)).setCell _ _ (.inl hinP)).setCell _ _ (.inl hinP)⟩

theorem crash_ok (p : Nat) (ko : Option Addr) (kc : Nat) (ks : List Bool) (w : World) (fp : List Nat) (D : Dv) (h : DevAt w p fp D) (hm : D.W.length < 1000000) (hkl : ks.length ≤ 9223372036854775807) (hks : KeepAt w fp ko ks) :
    Calls Try.prog 17 #[.pointer (some ⟨p, 0, none⟩), .slice ko ks.length kc] w fun e w' => e = .returned (.tuple #[]) ∧ DevAt w' p fp (D.crashed ks) ∧ Off fp w w' := by
  obtain ⟨lb, lcap, cv, h⟩ := h
  rcases h.form with ⟨rfl, hW⟩ | ⟨cb, c, rfl⟩
  · exact crash_nil p ko kc ks w fp D lb lcap h hW
  · exact crash_some p ko kc ks w fp D lb lcap cb c h hm hkl hks
end Go.Proofs.Ytkdlggobbkedmaa
