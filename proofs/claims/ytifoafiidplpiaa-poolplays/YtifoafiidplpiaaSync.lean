/- What Sync does: a dead device, a fuse that has burnt down, or all writes of the cache made lasting in their order. -/
import Derived.Test.YtifoafiidplpiaaLay
namespace Go.Proofs.Ytifoafiidplpiaa
open Go.RowKit
set_option linter.unusedVariables false
set_option linter.unusedSimpArgs false

def laidOver (L : List (List UInt8)) (W : List (Nat × List UInt8)) : List (List UInt8) := W.foldl (fun L x => L.set x.1 x.2) L
theorem length_laidOver (W : List (Nat × List UInt8)) : ∀ L, (laidOver L W).length = L.length := by
  induction W with
  | nil => intro L; rfl
  | cons x r ih => intro L; show (laidOver (L.set x.1 x.2) r).length = _; rw [ih, List.length_set]
theorem laidOver_snoc (L : List (List UInt8)) (W : List (Nat × List UInt8)) (x : Nat × List UInt8) : laidOver L (W ++ [x]) = (laidOver L W).set x.1 x.2 := by simp [laidOver]
def Dv.synced (D : Dv) : Dv := { D.burnt with calls := wrap64 (D.calls + 1), L := laidOver D.L D.W, W := [] }

set_option maxHeartbeats 400000 in
theorem sync_dead (p : Nat) (w : World) (fp : List Nat) (D : Dv) (h : DevAt w p fp D) (hd : D.dead = true) :
    Calls Try.prog 68 #[.pointer (some ⟨p, 0, none⟩)] w fun e w' => e = .returned (.int .i64 50) ∧ w' = w := by
  obtain ⟨lb, lcap, cv, h⟩ := h
  have k3 := h.c3
  rw [hd] at k3
  go_enter Try.func68, Try.ntmps68
  go_wp2
  go_ret
  exact ⟨rfl, rfl⟩

set_option maxHeartbeats 400000 in
theorem sync_burnt (p : Nat) (w : World) (fp : List Nat) (D : Dv) (h : DevAt w p fp D) (hd : D.dead = false) (hf : D.fuse = 0) :
    Calls Try.prog 68 #[.pointer (some ⟨p, 0, none⟩)] w fun e w' => e = .returned (.int .i64 50) ∧ DevAt w' p fp { D with dead := true } ∧ Off fp w w' := by
  obtain ⟨lb, lcap, cv, h⟩ := h
  have k3 := h.c3
  rw [hd] at k3
  have k2 := h.c2
  rw [hf] at k2
  have hwf : Dv.wf { D with dead := true } := ⟨h.wf.pos, h.wf.max, h.wf.sec, h.wf.ent, h.wf.lo, h.wf.hi⟩
  have h1 := h.heads 3 (.bool true) { D with dead := true } rfl rfl hwf rfl
  have HB := hide (burn_dies p w _ k2 h.c3 (h.fz 3))
  clear hd hf
  go_enter Try.func68, Try.ntmps68
  go_wp2_with (first | (go_at_call 74; refine HB.out.mono ?_; rintro e w' ⟨rfl, rfl⟩))
  go_ret
  exact ⟨rfl, ⟨lb, lcap, cv, h1⟩, (Off.refl fp w).setCell _ _ (.inl h.inP)⟩

set_option maxHeartbeats 1000000 in
set_option maxRecDepth 100000 in
theorem sync_some (p : Nat) (w : World) (fp : List Nat) (D : Dv) (lb lcap cb c : Nat) (h : DevIs w p fp D lb lcap (.slice (some ⟨cb, 0, none⟩) D.W.length c)) (hd : D.dead = false) (hf : D.fuse ≠ 0) (hm : D.W.length < 1000000) :
    Calls Try.prog 68 #[.pointer (some ⟨p, 0, none⟩)] w fun e w' => e = .returned (.int .i64 0) ∧ DevAt w' p fp D.synced ∧ Off fp w w' := by
  have k3 := h.c3
  rw [hd] at k3
  have HB := hide (burn_ok p w fp D lb lcap _ h hf)
  have hinP := h.inP
  have hinL := h.inL
  clear hd hf
  go_enter Try.func68, Try.ntmps68
  go_wp2_with (first | fail)
  refine HB.out.mono ?_
  rintro e w1 ⟨rfl, h1, ho1⟩
  have hO1 : Off fp w w1 := ho1.mono (by simpa using hinP)
  clear HB k3 ho1
  have k4 := h1.c4
  have f4 := h1.fz 4
  obtain ⟨W2, hW2⟩ : ∃ W2, w1.setCell ⟨p, 4, none⟩ (.int .i64 (wrap64 (D.burnt.calls + 1))) = W2 := ⟨_, rfl⟩
  have hwf2 : Dv.wf { D.burnt with calls := wrap64 (D.calls + 1) } := ⟨h1.wf.pos, h1.wf.max, h1.wf.sec, h1.wf.ent, h1.wf.lo, h1.wf.hi⟩
  have h2 : DevIs W2 p fp { D.burnt with calls := wrap64 (D.calls + 1) } lb lcap (.slice (some ⟨cb, 0, none⟩) D.W.length c) := by rw [← hW2]; exact h1.heads 4 _ _ rfl rfl hwf2 rfl
  have hO2 : Off fp w W2 := by rw [← hW2]; exact hO1.setCell _ _ (.inl hinP)
  have k1 := h2.c1
  clear h1 hO1
  go_wp2
  clear hW2 k1 k4 f4 h
  go_loopw [26] (fun i wr => ∃ k : Nat, k ≤ D.W.length ∧ i = .int .i64 k ∧ DevIs wr p fp { D.burnt with calls := wrap64 (D.calls + 1), L := laidOver D.L (D.W.take k) } lb lcap (.slice (some ⟨cb, 0, none⟩) D.W.length c) ∧ Off fp w wr) (fun i _ => D.W.length - (intOf i).toNat)
  case atStart => exact ⟨0, Nat.zero_le _, rfl, h2, hO2⟩
  case round =>
    clear h2 hO2 hwf2 W2 w1
    obtain ⟨k, hk, rfl, h3, hO3⟩ := hrel
    by_cases hlt : k < D.W.length
    · have HX := hide (h3.wf.ent D.W[k] (List.getElem_mem hlt))
      have HR := hide (h3.entAt k hlt)
      have HE : Hid ((entOf D.W[k]).length = 129) := by show _ = _; simp [entOf, length_secCells, HX.out.2]
      have HZ : Hid (zeroEnt.size = (entOf D.W[k]).toArray.size) := by show _ = _; exact (size_ent 0 zeros length_zeros).trans HE.out.symm
      have z116 := Try.zero116
      go_wp2_with (first
        | (refine wpList_load_mid rfl 116 _ rfl cb (k * 129) rfl (entOf D.W[k]) _ HR.out Try.underlying116 rfl (Try.size116 HE.out) ?_)
        | (refine wpList_store_row rfl 116 _ _ rfl wr.heap.size (entOf D.W[k]).toArray rfl rfl 116 zeroEnt (heap_alloc_new _ _) (Try.size116' HE.out) HZ.out (all_oneCell_toArray (one_entOf _)) ?_))
      obtain ⟨W3, hW3⟩ : ∃ W3, (wr.alloc (.cells zeroEnt 116)).setRow wr.heap.size (entOf D.W[k]).toArray = W3 := ⟨_, rfl⟩
      rw [hW3]
      have hB3 : Below wr.heap.size wr W3 := by
        rw [← hW3]
        exact below_setRow ((Below.refl _ _).alloc (Nat.le_refl _) _) (Nat.le_refl _) _
      have hG : W3.heap[wr.heap.size]? = some (.cells (entOf D.W[k]).toArray 116 (0, 0)) := by
        rw [← hW3]; exact setRow_heap _ _ _ _ _ _ (heap_alloc_new _ _)
      have h4 := h3.below hB3
      have hO4 : Off fp w W3 := hO3.trans (Off.of_below hB3 []) (by simp)
      have hlb : lb ≠ wr.heap.size := fun e => by have := h3.ltL; omega
      have hpb : p ≠ wr.heap.size := fun e => by have := h3.lt; omega
      generalize wr.heap.size = b at *
      clear hW3 hB3 h3 hO3 HR HZ z116
      have kb0 : W3.cell? ⟨b, 0, none⟩ = some (.int .i64 (D.W[k].1 : Int)) := by rw [cell_of_row _ _ _ _ _ _ hG]; rfl
      have kb1 : W3.rangeAt b 1 (secCells D.W[k].2) := fun j v hv => by
        rw [cell_of_row _ _ _ _ _ _ hG, Nat.add_comm]
        simpa [entOf] using hv
      have HL : Hid ((secCells D.W[k].2).length = 128) := by show _ = _; rw [length_secCells]; exact HX.out.2
      obtain ⟨w5, hrun, h5, hO5⟩ := (h4.below ((Below.refl _ W3).drew)).lay D.W[k].1 HX.out.1 D.W[k].2 HX.out.2
      refine wp_region_held_drew (S := fun w' => w'.heap[p]? = W3.heap[p]? ∧ w'.heap[b]? = W3.heap[b]?) (by kernel_rfl) ⟨rfl, rfl⟩ (fun hH => ?_)
      refine take_to 0 30 (.pointer (some ⟨p, 0, none⟩)) rfl (by kernel_rfl) (by kernel_rfl) (by kernel_rfl) (fun _ _ _ h => h) rfl (by rfl) (fun w _ => by rfl) hH ?_
      simp only [Act.put, List.setIfInBounds_toArray, List.set_cons_zero, List.set_cons_succ]
      refine take_to 1 31 (.pointer (some ⟨p, 0, none⟩)) rfl (by kernel_rfl) (by kernel_rfl) (by kernel_rfl) (fun _ _ _ h => h) rfl (by rfl) (fun w _ => by rfl) hH ?_
      simp only [Act.put, List.setIfInBounds_toArray, List.set_cons_zero, List.set_cons_succ]
      refine take_to 2 32 (.pointer (some ⟨p, 0, none⟩)) rfl (by kernel_rfl) (by kernel_rfl) (by kernel_rfl) (fun _ _ _ h => h) rfl (by rfl) (fun w _ => by kernel_rfl) hH ?_
      simp only [Act.put, List.setIfInBounds_toArray, List.set_cons_zero, List.set_cons_succ]
      refine take_to 3 33 (.slice (some ⟨lb, 0, none⟩) (laidOver D.L (D.W.take k)).length lcap) rfl (by kernel_rfl) (by kernel_rfl) (by kernel_rfl) (fun _ _ _ h => h) rfl (by rfl) (fun w hw => op_load _ _ 68 (.tmp 32) rfl (.pointer (some ⟨p, 0, none⟩)) _ rfl (run_load68 w p _ ((World.cell?_of_block hw.1).trans h4.c0))) hH ?_
      simp only [Act.put, List.setIfInBounds_toArray, List.set_cons_zero, List.set_cons_succ]
      refine take_to 4 34 (.pointer (some ⟨b, 0, none⟩)) rfl (by kernel_rfl) (by kernel_rfl) (by kernel_rfl) (fun _ _ _ h => h) rfl (by rfl) (fun w _ => by kernel_rfl) hH ?_
      simp only [Act.put, List.setIfInBounds_toArray, List.set_cons_zero, List.set_cons_succ]
      refine take_to 5 35 (.int .i64 (D.W[k].1 : Int)) rfl (by kernel_rfl) (by kernel_rfl) (by kernel_rfl) (fun _ _ _ h => h) rfl (by rfl) (fun w hw => op_load _ _ 3 (.tmp 34) rfl (.pointer (some ⟨b, 0, none⟩)) _ rfl (run_load3 w b 0 _ ((World.cell?_of_block hw.2).trans kb0))) hH ?_
      simp only [Act.put, List.setIfInBounds_toArray, List.set_cons_zero, List.set_cons_succ]
      refine take_to 6 36 (.pointer (some ⟨b, 1, none⟩)) rfl (by kernel_rfl) (by kernel_rfl) (by kernel_rfl) (fun _ _ _ h => h) rfl (by rfl) (fun w _ => by kernel_rfl) hH ?_
      simp only [Act.put, List.setIfInBounds_toArray, List.set_cons_zero, List.set_cons_succ]
      refine take_to 7 37 (.agg (secCells D.W[k].2).toArray) rfl (by kernel_rfl) (by kernel_rfl) (by kernel_rfl) (fun _ _ _ h => h) rfl (by rfl) (fun w hw => op_load _ _ 101 (.tmp 36) rfl (.pointer (some ⟨b, 1, none⟩)) _ rfl (run_loadAt_mid w b 1 101 _ _ (fun j v hv => (World.cell?_of_block hw.2).trans (kb1 j v hv)) Try.underlying101 rfl (Try.size101 HL.out))) hH ?_
      simp only [Act.put, List.setIfInBounds_toArray, List.set_cons_zero, List.set_cons_succ]
      refine take_to 8 38 (.pointer (some ⟨lb, D.W[k].1 * 128, none⟩)) rfl (by kernel_rfl) (by kernel_rfl) (by kernel_rfl) (fun _ _ _ h => h) rfl (by rfl) (fun w _ => op_index _ _ 68 (.tmp 33) (.tmp 35) rfl _ _ _ rfl rfl (run_index68 w lb _ lcap _ HX.out.1)) hH ?_
      simp only [Act.put, List.setIfInBounds_toArray, List.set_cons_zero, List.set_cons_succ]
      refine step_store_to 9 w5 rfl (by kernel_rfl) rfl (by rfl) 101 (.tmp 38) (.tmp 37) rfl _ _ rfl rfl hrun ?_ ?_
      · exact ⟨hO5.block p h4.lt (by simp [h4.ne1]), hO5.block b (Array.getElem?_eq_some_iff.1 hG).1 (by simp; omega)⟩
      refine wpAnyH_done (by kernel_rfl) ?_ _
      have hO6 : Off fp w w5 := (hO4.drew).trans hO5 (by simpa using Or.inl hinL)
      have hsn : (laidOver D.L (D.W.take k)).set D.W[k].1 D.W[k].2 = laidOver D.L (D.W.take (k + 1)) := by
        rw [List.take_succ_eq_append_getElem hlt, laidOver_snoc]
      have h6 : DevIs w5 p fp { D.burnt with calls := wrap64 (D.calls + 1), L := laidOver D.L (D.W.take (k + 1)) } lb lcap (.slice (some ⟨cb, 0, none⟩) D.W.length c) := by rw [← hsn]; exact h5
      have H6 := hide h6
      clear h6 hsn h5 hrun kb0 kb1 hH
      go_wp2
      go_roundw
      case rel => exact ⟨k + 1, by omega, by go_num, H6.out, hO6⟩
      case measure => simp [intOf]; omega
    · have k1 := h3.c1
      have f1 := h3.fz 1
      have hk2 : D.W.take k = D.W := List.take_of_length_le (by omega)
      have h5 := h3.drop
      rw [hk2] at h5
      clear hk2
      go_wp2
      go_ret
      exact ⟨rfl, ⟨lb, lcap, _, h5⟩, hO3.setCell _ _ (.inl hinP)⟩

set_option maxHeartbeats 1000000 in
set_option maxRecDepth 100000 in
theorem sync_nil (p : Nat) (w : World) (fp : List Nat) (D : Dv) (lb lcap : Nat) (h : DevIs w p fp D lb lcap (.slice none 0 0)) (hW : D.W = []) (hd : D.dead = false) (hf : D.fuse ≠ 0) :
    Calls Try.prog 68 #[.pointer (some ⟨p, 0, none⟩)] w fun e w' => e = .returned (.int .i64 0) ∧ DevAt w' p fp D.synced ∧ Off fp w w' := by
  have k3 := h.c3
  rw [hd] at k3
  have HB := hide (burn_ok p w fp D lb lcap _ h hf)
  have hinP := h.inP
  have HW : Hid (D.synced = { D.burnt with calls := wrap64 (D.calls + 1), W := [] }) := by show _ = _; simp [Dv.synced, hW, laidOver]; rfl
  clear hd hf hW
  go_enter Try.func68, Try.ntmps68
  go_wp2_with (first | fail)
  refine HB.out.mono ?_
  rintro e w1 ⟨rfl, h1, ho1⟩
  have hO1 : Off fp w w1 := ho1.mono (by simpa using hinP)
  clear HB k3 ho1
  have k4 := h1.c4
  have f4 := h1.fz 4
  obtain ⟨W2, hW2⟩ : ∃ W2, w1.setCell ⟨p, 4, none⟩ (.int .i64 (wrap64 (D.burnt.calls + 1))) = W2 := ⟨_, rfl⟩
  have hwf2 : Dv.wf { D.burnt with calls := wrap64 (D.calls + 1) } := ⟨h1.wf.pos, h1.wf.max, h1.wf.sec, h1.wf.ent, h1.wf.lo, h1.wf.hi⟩
  have h2 : DevIs W2 p fp { D.burnt with calls := wrap64 (D.calls + 1) } lb lcap (.slice none 0 0) := by rw [← hW2]; exact h1.heads 4 _ _ rfl rfl hwf2 rfl
  have hO2 : Off fp w W2 := by rw [← hW2]; exact hO1.setCell _ _ (.inl hinP)
  have k1 := h2.c1
  have f1 := h2.fz 1
  clear h1 hO1
  go_wp2
  clear hW2 k4 f4 h
  go_loop [26] (fun i => i = .int .i64 0) (fun _ => 0)
  case atStart => rfl
  case round =>
    subst hrel
    have h5 := h2.drop
    go_wp2
    go_ret
    rw [HW.out]
    exact ⟨rfl, ⟨lb, lcap, _, h5⟩, hO2.setCell _ _ (.inl hinP)⟩

theorem sync_ok (p : Nat) (w : World) (fp : List Nat) (D : Dv) (h : DevAt w p fp D) (hd : D.dead = false) (hf : D.fuse ≠ 0) (hm : D.W.length < 1000000) :
    Calls Try.prog 68 #[.pointer (some ⟨p, 0, none⟩)] w fun e w' => e = .returned (.int .i64 0) ∧ DevAt w' p fp D.synced ∧ Off fp w w' := by
  obtain ⟨lb, lcap, cv, h⟩ := h
  rcases h.form with ⟨rfl, hW⟩ | ⟨cb, c, rfl⟩
  · exact sync_nil p w fp D lb lcap h hW hd hf
  · exact sync_some p w fp D lb lcap cb c h hd hf hm
end Go.Proofs.Ytifoafiidplpiaa
