/- A part of it: Sync Crash Dev FNum FLay. -/
import Derived.Test.YteeembildppgmaaGreatM0
import Derived.Test.YteeembildppgmaaGreatM2
import Derived.Deep.QuietTactic
import Derived.BigQuiet
import Derived.WalkMore
import Derived.ScopeJumps
import Derived.Deep.RegionHeldLaw
namespace Go.Proofs.YteeembildppgmaaGreat
open Go.RowKit
set_option linter.unusedVariables false
set_option linter.unusedSimpArgs false
def laidOver (L : List (List UInt8)) (W : List (Nat × List UInt8)) : List (List UInt8) := W.foldl (fun L x => L.set x.1 x.2) L
theorem length_laidOver (W : List (Nat × List UInt8)) : ∀ L, (laidOver L W).length = L.length := by
 induction W with
 | nil => intro L; rfl
 | cons x r ih => intro L; show (laidOver (L.set x.1 x.2) r).length = _; rw [ih, List.length_set]
theorem laidOver_snoc (L : List (List UInt8)) (W : List (Nat × List UInt8)) (x : Nat × List UInt8) : laidOver L (W ++ [x]) = (laidOver L W).set x.1 x.2 := by simp [laidOver]
def Dv.synced (D : Dv) : Dv := { D.burnt with calls := wrap64 (D.calls + 1), L := laidOver D.L D.W, W := [] }

set_option maxHeartbeats 400000 in
theorem sync_dead (p : Nat) (w : World) (fp : List Nat) (D : Dv) (h : DevAt w p fp D) (hd : D.dead = true) :
 Calls Tryz.prog 114 #[.pointer (some ⟨p, 0, none⟩)] w fun e w' => e = .returned (.int .i64 50) ∧ w' = w := by
 obtain ⟨lb, lcap, cv, h⟩ := h
 have k3 := h.c3
 rw [hd] at k3
 go_enter Tryz.func114, Tryz.ntmps114
 go_wp2
 go_ret
 exact ⟨rfl, rfl⟩

set_option maxHeartbeats 400000 in
theorem sync_burnt (p : Nat) (w : World) (fp : List Nat) (D : Dv) (h : DevAt w p fp D) (hd : D.dead = false) (hf : D.fuse = 0) :
 Calls Tryz.prog 114 #[.pointer (some ⟨p, 0, none⟩)] w fun e w' => e = .returned (.int .i64 50) ∧ DevAt w' p fp { D with dead := true } ∧ Off fp w w' := by
 obtain ⟨lb, lcap, cv, h⟩ := h
 have k3 := h.c3
 rw [hd] at k3
 have k2 := h.c2
 rw [hf] at k2
 have hwf : Dv.wf { D with dead := true } := ⟨h.wf.pos, h.wf.max, h.wf.sec, h.wf.ent, h.wf.lo, h.wf.hi⟩
 have h1 := h.heads 3 (.bool true) { D with dead := true } rfl rfl hwf rfl
 have HB := hide (burn_dies p w _ k2 h.c3 (h.fz 3))
 clear hd hf
 go_enter Tryz.func114, Tryz.ntmps114
 go_wp2_with (first | (go_at_call 145; refine HB.out.mono ?_; rintro e w' ⟨rfl, rfl⟩))
 go_ret
 exact ⟨rfl, ⟨lb, lcap, cv, h1⟩, (Off.refl fp w).setCell _ _ (.inl h.inP)⟩

set_option maxHeartbeats 1000000 in
set_option maxRecDepth 100000 in
theorem sync_some (p : Nat) (w : World) (fp : List Nat) (D : Dv) (lb lcap cb c : Nat) (h : DevIs w p fp D lb lcap (.slice (some ⟨cb, 0, none⟩) D.W.length c)) (hd : D.dead = false) (hf : D.fuse ≠ 0) (hm : D.W.length < 1000000) :
 Calls Tryz.prog 114 #[.pointer (some ⟨p, 0, none⟩)] w fun e w' => e = .returned (.int .i64 0) ∧ DevAt w' p fp D.synced ∧ Off fp w w' := by
 have k3 := h.c3
 rw [hd] at k3
 have HB := hide (burn_ok p w fp D lb lcap _ h hf)
 have hinP := h.inP
 have hinL := h.inL
 clear hd hf
 go_enter Tryz.func114, Tryz.ntmps114
 go_wp2_with (first | fail)
 refine HB.out.mono ?_
 rintro e w1 ⟨rfl, h1, ho1⟩
 have hO1 : Off fp w w1 := ho1.mono (by simpa using hinP)
 clear HB k3 ho1
 have k4 := h1.c4
 have f4 := h1.fz 4
 obtain ⟨W2, hW2⟩ : ∃ W2, w1.setCell ⟨p, 4, none⟩ (.int .i64 (wrap64 (D.burnt.calls + 1))) = W2 := ⟨_, rfl⟩
 have hwf2 : Dv.wf { D.burnt with calls := wrap64 (D.calls + 1) } := ⟨h1.wf.pos, h1.wf.max, h1.wf.sec, h1.wf.ent, h1.wf.lo, h1.wf.hi⟩
 have h2 : DevIs W2 p fp { D.burnt with calls := wrap64 (D.calls + 1) } lb lcap (.slice (some ⟨cb, 0, none⟩) D.W.length c) := by rw [← hW2]; exact h1.heads 4 _ _ rfl rfl hwf2 rfl
 have hO2 : Off fp w W2 := by rw [← hW2]; exact hO1.setCell _ _ (.inl hinP)
 have k1 := h2.c1
 clear h1 hO1
 go_wp2
 clear hW2 k1 k4 f4 h
 go_loopw [26] (fun i wr => ∃ k : Nat, k ≤ D.W.length ∧ i = .int .i64 k ∧ DevIs wr p fp { D.burnt with calls := wrap64 (D.calls + 1), L := laidOver D.L (D.W.take k) } lb lcap (.slice (some ⟨cb, 0, none⟩) D.W.length c) ∧ Off fp w wr) (fun i _ => D.W.length - (intOf i).toNat)
 case atStart => exact ⟨0, Nat.zero_le _, rfl, h2, hO2⟩
 case round =>
  clear h2 hO2 hwf2 W2 w1
  obtain ⟨k, hk, rfl, h3, hO3⟩ := hrel
  by_cases hlt : k < D.W.length
  · have HX := hide (h3.wf.ent D.W[k] (List.getElem_mem hlt))
    have HR := hide (h3.entAt k hlt)
    have HE : Hid ((entOf D.W[k]).length = 129) := by show _ = _; simp [entOf, length_secCells, HX.out.2]
    have HZ : Hid (zeroEnt.size = (entOf D.W[k]).toArray.size) := by show _ = _; exact (size_ent 0 zeros length_zeros).trans HE.out.symm
    have z97 := Tryz.zero97
    go_wp2_with (first
     | (refine wpList_load_mid rfl 97 _ rfl cb (k * 129) rfl (entOf D.W[k]) _ HR.out Tryz.underlying97 rfl (Tryz.size97 HE.out) ?_)
     | (refine wpList_store_row rfl 97 _ _ rfl wr.heap.size (entOf D.W[k]).toArray rfl rfl 97 zeroEnt (heap_alloc_new _ _) (Tryz.size97' HE.out) HZ.out (all_oneCell_toArray (one_entOf _)) ?_))
    obtain ⟨W3, hW3⟩ : ∃ W3, (wr.alloc (.cells zeroEnt 97)).setRow wr.heap.size (entOf D.W[k]).toArray = W3 := ⟨_, rfl⟩
    rw [hW3]
    have hB3 : Below wr.heap.size wr W3 := by
     rw [← hW3]
     exact below_setRow ((Below.refl _ _).alloc (Nat.le_refl _) _) (Nat.le_refl _) _
    have hG : W3.heap[wr.heap.size]? = some (.cells (entOf D.W[k]).toArray 97 (0, 0)) := by
     rw [← hW3]; exact setRow_heap _ _ _ _ _ _ (heap_alloc_new _ _)
    have h4 := h3.below hB3
    have hO4 : Off fp w W3 := hO3.trans (Off.of_below hB3 []) (by simp)
    have hlb : lb ≠ wr.heap.size := fun e => by have := h3.ltL; omega
    have hpb : p ≠ wr.heap.size := fun e => by have := h3.lt; omega
    generalize wr.heap.size = b at *
    clear hW3 hB3 h3 hO3 HR HZ z97
    have kb0 : W3.cell? ⟨b, 0, none⟩ = some (.int .i64 (D.W[k].1 : Int)) := by rw [cell_of_row _ _ _ _ _ _ hG]; rfl
    have kb1 : W3.rangeAt b 1 (secCells D.W[k].2) := fun j v hv => by
     rw [cell_of_row _ _ _ _ _ _ hG, Nat.add_comm]
     simpa [entOf] using hv
    have HL : Hid ((secCells D.W[k].2).length = 128) := by show _ = _; rw [length_secCells]; exact HX.out.2
    obtain ⟨w5, hrun, h5, hO5⟩ := (h4.below ((Below.refl _ W3).drew)).lay D.W[k].1 HX.out.1 D.W[k].2 HX.out.2
    refine wp_region_held_drew (S := fun w' => w'.heap[p]? = W3.heap[p]? ∧ w'.heap[b]? = W3.heap[b]?) (by kernel_rfl) ⟨rfl, rfl⟩ (fun hH => ?_)
    refine take_to 0 30 (.pointer (some ⟨p, 0, none⟩)) rfl (by kernel_rfl) (by kernel_rfl) (by kernel_rfl) (fun _ _ _ h => h) rfl (by rfl) (fun w _ => by rfl) hH ?_
    simp only [Act.put, zA, zB, zC]
    refine take_to 1 31 (.pointer (some ⟨p, 0, none⟩)) rfl (by kernel_rfl) (by kernel_rfl) (by kernel_rfl) (fun _ _ _ h => h) rfl (by rfl) (fun w _ => by rfl) hH ?_
    simp only [Act.put, zA, zB, zC]
    refine take_to 2 32 (.pointer (some ⟨p, 0, none⟩)) rfl (by kernel_rfl) (by kernel_rfl) (by kernel_rfl) (fun _ _ _ h => h) rfl (by rfl) (fun w _ => by kernel_rfl) hH ?_
    simp only [Act.put, zA, zB, zC]
    refine take_to 3 33 (.slice (some ⟨lb, 0, none⟩) (laidOver D.L (D.W.take k)).length lcap) rfl (by kernel_rfl) (by kernel_rfl) (by kernel_rfl) (fun _ _ _ h => h) rfl (by rfl) (fun w hw => op_load _ _ 89 (.tmp 32) rfl (.pointer (some ⟨p, 0, none⟩)) _ rfl (run_load89 w p _ ((World.cell?_of_block hw.1).trans h4.c0))) hH ?_
    simp only [Act.put, zA, zB, zC]
    refine take_to 4 34 (.pointer (some ⟨b, 0, none⟩)) rfl (by kernel_rfl) (by kernel_rfl) (by kernel_rfl) (fun _ _ _ h => h) rfl (by rfl) (fun w _ => by kernel_rfl) hH ?_
    simp only [Act.put, zA, zB, zC]
    refine take_to 5 35 (.int .i64 (D.W[k].1 : Int)) rfl (by kernel_rfl) (by kernel_rfl) (by kernel_rfl) (fun _ _ _ h => h) rfl (by rfl) (fun w hw => op_load _ _ 3 (.tmp 34) rfl (.pointer (some ⟨b, 0, none⟩)) _ rfl (run_load3 w b 0 _ ((World.cell?_of_block hw.2).trans kb0))) hH ?_
    simp only [Act.put, zA, zB, zC]
    refine take_to 6 36 (.pointer (some ⟨b, 1, none⟩)) rfl (by kernel_rfl) (by kernel_rfl) (by kernel_rfl) (fun _ _ _ h => h) rfl (by rfl) (fun w _ => by kernel_rfl) hH ?_
    simp only [Act.put, zA, zB, zC]
    refine take_to 7 37 (.agg (secCells D.W[k].2).toArray) rfl (by kernel_rfl) (by kernel_rfl) (by kernel_rfl) (fun _ _ _ h => h) rfl (by rfl) (fun w hw => op_load _ _ 94 (.tmp 36) rfl (.pointer (some ⟨b, 1, none⟩)) _ rfl (run_loadAt_mid w b 1 94 _ _ (fun j v hv => (World.cell?_of_block hw.2).trans (kb1 j v hv)) Tryz.underlying94 rfl (Tryz.size94 HL.out))) hH ?_
    simp only [Act.put, zA, zB, zC]
    refine take_to 8 38 (.pointer (some ⟨lb, D.W[k].1 * 128, none⟩)) rfl (by kernel_rfl) (by kernel_rfl) (by kernel_rfl) (fun _ _ _ h => h) rfl (by rfl) (fun w _ => op_index _ _ 89 (.tmp 33) (.tmp 35) rfl _ _ _ rfl rfl (run_index89 w lb _ lcap _ HX.out.1)) hH ?_
    simp only [Act.put, zA, zB, zC]
    refine step_store_to 9 w5 rfl (by kernel_rfl) rfl (by rfl) 94 (.tmp 38) (.tmp 37) rfl _ _ rfl rfl hrun ?_ ?_
    · exact ⟨hO5.block p h4.lt (by simp [h4.ne1]), hO5.block b (Array.getElem?_eq_some_iff.1 hG).1 (by simp; omega)⟩
    refine wpAnyH_done (by kernel_rfl) ?_ _
    have hO6 : Off fp w w5 := (hO4.drew).trans hO5 (by simpa using Or.inl hinL)
    have hsn : (laidOver D.L (D.W.take k)).set D.W[k].1 D.W[k].2 = laidOver D.L (D.W.take (k + 1)) := by
     rw [List.take_succ_eq_append_getElem hlt, laidOver_snoc]
    have h6 : DevIs w5 p fp { D.burnt with calls := wrap64 (D.calls + 1), L := laidOver D.L (D.W.take (k + 1)) } lb lcap (.slice (some ⟨cb, 0, none⟩) D.W.length c) := by rw [← hsn]; exact h5
    have H6 := hide h6
    clear h6 hsn h5 hrun kb0 kb1 hH
    go_wp2
    go_roundw
    case rel => exact ⟨k + 1, by omega, by go_num, H6.out, hO6⟩
    case measure => simp [intOf]; omega
  · have k1 := h3.c1
    have f1 := h3.fz 1
    have hk2 : D.W.take k = D.W := List.take_of_length_le (by omega)
    have h5 := h3.drop
    rw [hk2] at h5
    clear hk2
    go_wp2
    go_ret
    exact ⟨rfl, ⟨lb, lcap, _, h5⟩, hO3.setCell _ _ (.inl hinP)⟩

set_option maxHeartbeats 1000000 in
set_option maxRecDepth 100000 in
theorem sync_nil (p : Nat) (w : World) (fp : List Nat) (D : Dv) (lb lcap : Nat) (h : DevIs w p fp D lb lcap (.slice none 0 0)) (hW : D.W = []) (hd : D.dead = false) (hf : D.fuse ≠ 0) :
 Calls Tryz.prog 114 #[.pointer (some ⟨p, 0, none⟩)] w fun e w' => e = .returned (.int .i64 0) ∧ DevAt w' p fp D.synced ∧ Off fp w w' := by
 have k3 := h.c3
 rw [hd] at k3
 have HB := hide (burn_ok p w fp D lb lcap _ h hf)
 have hinP := h.inP
 have HW : Hid (D.synced = { D.burnt with calls := wrap64 (D.calls + 1), W := [] }) := by show _ = _; simp [Dv.synced, hW, laidOver]; rfl
 clear hd hf hW
 go_enter Tryz.func114, Tryz.ntmps114
 go_wp2_with (first | fail)
 refine HB.out.mono ?_
 rintro e w1 ⟨rfl, h1, ho1⟩
 have hO1 : Off fp w w1 := ho1.mono (by simpa using hinP)
 clear HB k3 ho1
 have k4 := h1.c4
 have f4 := h1.fz 4
 obtain ⟨W2, hW2⟩ : ∃ W2, w1.setCell ⟨p, 4, none⟩ (.int .i64 (wrap64 (D.burnt.calls + 1))) = W2 := ⟨_, rfl⟩
 have hwf2 : Dv.wf { D.burnt with calls := wrap64 (D.calls + 1) } := ⟨h1.wf.pos, h1.wf.max, h1.wf.sec, h1.wf.ent, h1.wf.lo, h1.wf.hi⟩
 have h2 : DevIs W2 p fp { D.burnt with calls := wrap64 (D.calls + 1) } lb lcap (.slice none 0 0) := by rw [← hW2]; exact h1.heads 4 _ _ rfl rfl hwf2 rfl
 have hO2 : Off fp w W2 := by rw [← hW2]; exact hO1.setCell _ _ (.inl hinP)
 have k1 := h2.c1
 have f1 := h2.fz 1
 clear h1 hO1
 go_wp2
 clear hW2 k4 f4 h
 go_loop [26] (fun i => i = .int .i64 0) (fun _ => 0)
 case atStart => rfl
 case round =>
  subst hrel
  have h5 := h2.drop
  go_wp2
  go_ret
  rw [HW.out]
  exact ⟨rfl, ⟨lb, lcap, _, h5⟩, hO2.setCell _ _ (.inl hinP)⟩

theorem sync_ok (p : Nat) (w : World) (fp : List Nat) (D : Dv) (h : DevAt w p fp D) (hd : D.dead = false) (hf : D.fuse ≠ 0) (hm : D.W.length < 1000000) :
 Calls Tryz.prog 114 #[.pointer (some ⟨p, 0, none⟩)] w fun e w' => e = .returned (.int .i64 0) ∧ DevAt w' p fp D.synced ∧ Off fp w w' := by
 obtain ⟨lb, lcap, cv, h⟩ := h
 rcases h.form with ⟨rfl, hW⟩ | ⟨cb, c, rfl⟩
 · exact sync_nil p w fp D lb lcap h hW hd hf
 · exact sync_some p w fp D lb lcap cb c h hd hf hm
end Go.Proofs.YteeembildppgmaaGreat
namespace Go.Proofs.YteeembildppgmaaGreat
open Go.RowKit
set_option linter.unusedVariables false
set_option linter.unusedSimpArgs false
def kept (W : List (Nat × List UInt8)) (ks : List Bool) (k : Nat) : List (Nat × List UInt8) := (List.range k).filterMap fun i => if ks.getD i false = true then W[i]? else none
end Go.Proofs.YteeembildppgmaaGreat
namespace Go.Proofs.YteeembildppgmaaGreat
open Go.RowKit
set_option linter.unusedVariables false
set_option linter.unusedSimpArgs false
def Dv.fresh (n : Nat) : Dv := ⟨List.replicate n zeros, [], -1, false, 0⟩
theorem rowCells_fresh (n : Nat) : rowCells (List.replicate n zeros) = List.replicate (n * 128) (bcell 0) := by
 induction n with
 | zero => rfl
 | succ n ih =>
   rw [List.replicate_succ]
   show secCells zeros ++ rowCells (List.replicate n zeros) = _
   rw [ih, show (n + 1) * 128 = 128 + n * 128 by omega, ← List.replicate_append_replicate]
   congr 1

theorem new_dev (n : Nat) (w : World) (h1 : 1 ≤ n) (h2 : n ≤ 8192) :
 Calls Tryz.prog 27 #[.int .i64 (n : Int)] w fun e w' => e = .returned (.tuple #[.pointer (some ⟨w.heap.size + 1, 0, none⟩), .int .i64 0]) ∧
  DevAt w' (w.heap.size + 1) [w.heap.size, w.heap.size + 1] (Dv.fresh n) ∧ Below w.heap.size w w' := by
 refine (new_any n w (by omega) (by omega)).mono ?_
 rintro e w' ⟨rfl, rfl⟩
 refine ⟨rfl, ⟨w.heap.size, n, .slice none 0 0, ⟨⟨?_, ?_, ?_, ?_, by simp [Dv.fresh], by simp [Dv.fresh]⟩, ?_, ?_, World.ownsRow_nil _ _ _ _, by omega, by simp [Value.ownBlock], by simp [Value.ownBlock], by simp, by simp, fun k hk => by simp [Value.ownBlock] at hk, ?_⟩⟩, ?_⟩
 · simpa [Dv.fresh] using h1
 · simpa [Dv.fresh] using h2
 · intro s hs
   obtain ⟨_, rfl⟩ := List.mem_replicate.1 hs
   exact length_zeros
 · intro x hx
   simp [Dv.fresh] at hx
 · have := heap_alloc_new (w.alloc (.cells (Tryz.zeroRow n) 94)) (.cells #[.slice (some ⟨w.heap.size, 0, none⟩) n n, .slice none 0 0, .int .i64 (-1), .bool false, .int .i64 0] 92)
   simp only [World.size_alloc] at this
   simpa [Dv.fresh] using this
 · have hl : (Dv.fresh n).L.length = n := by simp [Dv.fresh]
   rw [hl]
   have hb : (w.alloc (.cells (Tryz.zeroRow n) 94)).heap[w.heap.size]? = some (.cells (Tryz.zeroRow n) 94) := heap_alloc_new w _
   have hz : (Tryz.zeroRow n).toList = rowCells (List.replicate n zeros) := by rw [rowCells_fresh]; rfl
   have hsz : (Tryz.zeroRow n).size = n * 128 := by rw [← Array.length_toList, hz, rowCells_fresh, List.length_replicate]
   refine ⟨?_, .inr ⟨w.heap.size, n, Tryz.zeroRow n, rfl, Nat.zero_le _, ?_, Nat.le_refl _, ?_, hsz, ?_⟩⟩
   · show (rowCells (List.replicate n zeros)).length = _
     rw [rowCells_fresh, List.length_replicate]
   · simp only [Int.toNat_natCast]
     rw [Below.heap_alloc _ _ _ (by simp)]; exact hb
   · simp only [maxLen]; omega
   · show _ = rowCells (List.replicate n zeros)
     rw [hz, List.take_of_length_le (by rw [rowCells_fresh, List.length_replicate]; exact Nat.le_refl _)]
 · intro k hk
   simp at hk
   simp
   omega
 · exact ((Below.refl _ _).alloc (Nat.le_refl _) _).alloc (by simp) _

theorem size_dev (p : Nat) (w : World) (fp : List Nat) (D : Dv) (h : DevAt w p fp D) :
 Calls Tryz.prog 47 #[.pointer (some ⟨p, 0, none⟩)] w fun e w' => e = .returned (.int .i64 (D.L.length : Int)) ∧ w' = w := by
 obtain ⟨lb, lcap, cv, h⟩ := h
 exact size_any p w _ _ _ h.c0


def Dv.write (D : Dv) (i : Int) (bs : List UInt8) : Int × Dv :=
 if D.dead = true then (50, D) else if (i < 0 ∨ (D.L.length : Int) ≤ i) ∨ bs.length ≠ 128 then (1, D) else if D.fuse = 0 then (50, { D with dead := true }) else (0, D.wrote i.toNat bs)
def Dv.sync (D : Dv) : Int × Dv :=
 if D.dead = true then (50, D) else if D.fuse = 0 then (50, { D with dead := true }) else (0, D.synced)
def Dv.read (D : Dv) (i : Int) : Option (List UInt8) × Int × Dv :=
 if D.dead = true then (none, 50, D) else if i < 0 ∨ (D.L.length : Int) ≤ i then (none, 1, D) else (some (D.newest i.toNat), 0, { D with calls := wrap64 (D.calls + 1) })

theorem write_dev (p : Nat) (i : Int) (q o c : Nat) (bs : List UInt8) (w : World) (fp : List Nat) (D : Dv) (h : DevAt w p fp D) (hm : D.W.length < 1000000)
 (hq : SrcAt w q o bs) (hqn : q ∉ fp) :
 Calls Tryz.prog 113 #[.pointer (some ⟨p, 0, none⟩), .int .i64 i, .slice (some ⟨q, o, none⟩) bs.length c] w fun e w' => e = .returned (.int .i64 (D.write i bs).1) ∧
  ∃ fp', DevAt w' p fp' (D.write i bs).2 ∧ Off fp w w' ∧ ∀ k ∈ fp', k ∈ fp ∨ w.heap.size ≤ k := by
 unfold Dv.write
 by_cases hd : D.dead = true
 · simp only [hd, if_true]
   refine (write_dead p i _ _ c w fp D h hd).mono ?_
   rintro e w' ⟨rfl, rfl⟩
   exact ⟨rfl, fp, h, Off.refl _ _, fun k hk => .inl hk⟩
 · have hd' : D.dead = false := by simpa using hd
   rw [if_neg hd]
   by_cases ha : (i < 0 ∨ (D.L.length : Int) ≤ i) ∨ bs.length ≠ 128
   · rw [if_pos ha]
     refine (write_arg p i _ _ c w fp D h hd' ha).mono ?_
     rintro e w' ⟨rfl, rfl⟩
     exact ⟨rfl, fp, h, Off.refl _ _, fun k hk => .inl hk⟩
   · rw [if_neg ha]
     have hb : bs.length = 128 := by omega
     obtain ⟨n, rfl⟩ : ∃ n : Nat, i = n := ⟨i.toNat, by omega⟩
     have hn : n < D.L.length := by omega
     rw [hb]
     by_cases hf : D.fuse = 0
     · rw [if_pos hf]
       refine (write_burnt p n _ c w fp D h hd' hn hf).mono ?_
       rintro e w' ⟨rfl, h1, h2⟩
       exact ⟨rfl, fp, h1, h2, fun k hk => .inl hk⟩
     · rw [if_neg hf]
       refine (write_ok p n q o c bs w fp D h hd' hn hf hm hb hq hqn).mono ?_
       rintro e w' ⟨rfl, fp', h1, h2, h3⟩
       exact ⟨rfl, fp', h1, h2, h3⟩

theorem sync_dev (p : Nat) (w : World) (fp : List Nat) (D : Dv) (h : DevAt w p fp D) (hm : D.W.length < 1000000) :
 Calls Tryz.prog 114 #[.pointer (some ⟨p, 0, none⟩)] w fun e w' => e = .returned (.int .i64 D.sync.1) ∧ DevAt w' p fp D.sync.2 ∧ Off fp w w' := by
 unfold Dv.sync
 by_cases hd : D.dead = true
 · simp only [hd, if_true]
   refine (sync_dead p w fp D h hd).mono ?_
   rintro e w' ⟨rfl, rfl⟩
   exact ⟨rfl, h, Off.refl _ _⟩
 · have hd' : D.dead = false := by simpa using hd
   rw [if_neg hd]
   by_cases hf : D.fuse = 0
   · rw [if_pos hf]
     exact sync_burnt p w fp D h hd' hf
   · rw [if_neg hf]
     exact sync_ok p w fp D h hd' hf hm

end Go.Proofs.YteeembildppgmaaGreat
namespace Go.Proofs.YteeembildppgmaaGreat
open Go.RowKit
set_option linter.unusedVariables false
set_option linter.unusedSimpArgs false
def beval (bs : List UInt8) : Nat := bs.foldl (fun v c => v * 256 + c.toNat) 0
theorem beval_snoc (bs : List UInt8) (c : UInt8) : beval (bs ++ [c]) = beval bs * 256 + c.toNat := by simp [beval]
theorem befold_lt : ∀ (bs : List UInt8) (v : Nat), bs.foldl (fun v c => v * 256 + c.toNat) v < (v + 1) * 256 ^ bs.length
 | [], v => by simp
 | c :: r, v => by
   rw [List.foldl_cons, List.length_cons, Nat.pow_succ]
   refine Nat.lt_of_lt_of_le (befold_lt r _) ?_
   have := c.toNat_lt
   calc (v * 256 + c.toNat + 1) * 256 ^ r.length ≤ ((v + 1) * 256) * 256 ^ r.length := Nat.mul_le_mul_right _ (by omega)
    _ = (v + 1) * (256 ^ r.length * 256) := by rw [Nat.mul_assoc, Nat.mul_comm 256]
theorem beval_lt (bs : List UInt8) : beval bs < 256 ^ bs.length := by
 have := befold_lt bs 0
 simpa [beval] using this
theorem secCells_get (bs : List UInt8) (k : Nat) (h : k < bs.length) : (secCells bs).toArray[k]? = some (.int .u8 (bs[k].toNat : Int)) := by
 simp [secCells, bcell, h]

theorem or_low (v c : Nat) (hc : c < 256) : (v * 256) ||| c = v * 256 + c := by
 have h := Nat.shiftLeft_add_eq_or_of_lt (i := 8) (by simpa using hc) v
 rw [Nat.shiftLeft_eq] at h
 exact h.symm
theorem wrapU (x : Int) : IntKind.u64.wrap x = x % 18446744073709551616 := rfl
theorem or_u64 (v c : Nat) (hv : v < 72057594037927936) (hc : c < 256) : bits .or .u64 (IntKind.u64.wrap ((v : Int) * 256)) (IntKind.u64.wrap (c : Int)) = ((v * 256 + c : Nat) : Int) := by
 have h1 : IntKind.u64.wrap ((v : Int) * 256) = ((v * 256 : Nat) : Int) := by rw [wrapU]; omega
 have h2 : IntKind.u64.wrap (c : Int) = (c : Int) := by rw [wrapU]; omega
 rw [h1, h2]
 have : bits .or .u64 ((v * 256 : Nat) : Int) (c : Int) = IntKind.u64.wrap (((BitVec.ofInt 64 ((v * 256 : Nat) : Int)).toNat ||| (BitVec.ofInt 64 (c : Int)).toNat : Nat) : Int) := by
  simp only [bits, BitVec.toNat_or]
  rfl
 rw [this]
 have e1 : (BitVec.ofInt 64 ((v * 256 : Nat) : Int)).toNat = v * 256 := by simp; omega
 have e2 : (BitVec.ofInt 64 (c : Int)).toNat = c := by simp; omega
 rw [e1, e2, or_low v c hc, wrapU]
 omega
theorem or_i64 (v c : Nat) (hv : v < 256) (hc : c < 256) : bits .or .i64 ((v : Int) * 256) (c : Int) = ((v * 256 + c : Nat) : Int) := by
 have h1 : (v : Int) * 256 = ((v * 256 : Nat) : Int) := by omega
 rw [h1]
 have : bits .or .i64 ((v * 256 : Nat) : Int) (c : Int) = IntKind.i64.wrap (((BitVec.ofInt 64 ((v * 256 : Nat) : Int)).toNat ||| (BitVec.ofInt 64 (c : Int)).toNat : Nat) : Int) := by
  simp only [bits, BitVec.toNat_or]
  rfl
 rw [this]
 have e1 : (BitVec.ofInt 64 ((v * 256 : Nat) : Int)).toNat = v * 256 := by simp; omega
 have e2 : (BitVec.ofInt 64 (c : Int)).toNat = c := by simp; omega
 rw [e1, e2, or_low v c hc, IntKind.wrap_i64]
 omega

set_option maxHeartbeats 400000 in
theorem number_any (g c : Nat) (bs : List UInt8) (t : TypeId) (fr : Nat × Nat) (w : World) (hq : w.heap[g]? = some (.cells (secCells bs).toArray t fr)) (hl : bs.length = 128) (hc : 128 ≤ c) :
 Calls Tryz.prog 133 #[.slice (some ⟨g, 0, none⟩) 128 c] w fun e w' => e = .returned (.int .u64 (beval (bs.take 8) : Nat)) ∧ w' = w := by
 go_enter Tryz.func133, Tryz.ntmps133
 go_wp2
 go_loop [9, 3] (fun i v => ∃ k : Nat, k ≤ 8 ∧ i = .int .i64 k ∧ v = .int .u64 (beval (bs.take k) : Nat)) (fun i _ => 8 - (intOf i).toNat)
 case atStart => exact ⟨0, by omega, rfl, rfl⟩
 case round =>
  obtain ⟨k, hk, rfl, rfl⟩ := hrel
  by_cases hlt : k < 8
  · have hcell : w.cell? ⟨g, k, none⟩ = some (.int .u8 ((bs[k]'(by omega)).toNat : Int)) := by rw [cell_of_row _ _ _ _ _ _ hq]; exact secCells_get bs k (by omega)
    go_wp2
    go_round
    case rel =>
     refine ⟨k + 1, by omega, rfl, ?_⟩
     have hv : beval (bs.take k) < 72057594037927936 := by
      have h1 := beval_lt (bs.take k)
      rw [List.length_take, Nat.min_eq_left (by omega)] at h1
      exact Nat.lt_of_lt_of_le h1 (Nat.le_trans (Nat.pow_le_pow_right (by omega) (by omega : k ≤ 7)) (by decide))
     rw [or_u64 _ _ hv (bs[k]'(by omega)).toNat_lt, List.take_succ_eq_append_getElem (by omega), beval_snoc]
    case measure => simp [intOf]; omega
  · go_wp2
    go_ret
    have hk8 : k = 8 := by omega
    subst hk8
    exact ⟨rfl, rfl⟩
def be8 (v : Nat) : List UInt8 := (List.range 8).map fun i => UInt8.ofNat (v / 256 ^ (7 - i) % 256)
theorem length_be8 (v : Nat) : (be8 v).length = 8 := by simp [be8]

theorem sec_setCell {w : World} {g : Nat} {X : List UInt8} (hg : w.heap[g]? = some (.cells (secCells X).toArray 5 (0, 0))) (k : Nat) (b : UInt8) :
 (w.setCell ⟨g, k, none⟩ (bcell b)).heap[g]? = some (.cells (secCells (X.set k b)).toArray 5 (0, 0)) := by
 rw [heap_setCell_same w g k _ _ _ hg]
 simp [secCells, List.map_set]
theorem set_mid {α : Type} (A B : List α) (k : Nat) (hA : k < A.length) (hB : k < B.length) : (A.take k ++ B.drop k).set k A[k] = A.take (k + 1) ++ B.drop (k + 1) := by
 rw [List.set_append_right _ _ (by simp; omega), List.length_take, Nat.min_eq_left (by omega), Nat.sub_self, List.take_succ_eq_append_getElem hA, List.append_assoc]
 congr 1
 rw [List.drop_eq_getElem_cons hB, List.set_cons_zero]
 rfl
theorem be8_get (v k : Nat) (h : k < 8) : (be8 v)[k]'(by rw [length_be8]; exact h) = UInt8.ofNat (v / 256 ^ (7 - k) % 256) := by simp [be8]
theorem bcell_ofNat (x : Nat) (h : x < 256) : bcell (UInt8.ofNat x) = .int .u8 (x : Int) := by
 unfold bcell
 rw [UInt8.toNat_ofNat', Nat.mod_eq_of_lt h]
theorem be8_cell (s k : Nat) (h : k < 8) : Value.int .u8 ((s : Int) / 2 ^ (8 * (7 - k)) % 256) = bcell ((be8 s)[k]'(by rw [length_be8]; exact h)) := by
 rw [be8_get _ _ h, bcell_ofNat _ (Nat.mod_lt _ (by omega))]
 congr 1
 have e : (2 : Int) ^ (8 * (7 - k)) = ((256 ^ (7 - k) : Nat) : Int) := by
  rw [Int.pow_mul]
  simp
 rw [e, ← Int.natCast_ediv]
 omega

def zerosN (n : Nat) : List UInt8 := List.replicate n 0
theorem length_zerosN (n : Nat) : (zerosN n).length = n := by simp [zerosN]
theorem makeN (n : Nat) (hn : n ≤ 2000000) (w : World) : (Instr.makeSlice 36 (.int .i64 (n : Int)) (.int .i64 (n : Int))).run Tryz.prog w = .ok (.slice (some ⟨w.heap.size, 0, none⟩) n n) (w.alloc (.cells (secCells (zerosN n)).toArray 5)) := by
 have h := run_make_row' (P := Tryz.prog) 36 5 (.int .u8 0) 1 Tryz.underlying36 Tryz.info5 rfl .i64 .i64 n (by omega) (by omega) w
 have e : madeCells #[.int .u8 0] n = (secCells (zerosN n)).toArray := by
  have := made_same (bcell 0) 1 n (by omega)
  simpa [secCells, zerosN, bcell] using this
 rw [e] at h
 exact h

def headOf (v : Nat) : List UInt8 := be8 v ++ zerosN 120
theorem length_headOf (v : Nat) : (headOf v).length = 128 := by simp [headOf, length_be8, zerosN]

set_option maxHeartbeats 400000 in
set_option maxRecDepth 100000 in
theorem headOf_any (v : Nat) (w : World) (hv : v < 4611686018427387904) :
 Calls Tryz.prog 155 #[.int .u64 (v : Int)] w fun e w' => e = .returned (.slice (some ⟨w.heap.size, 0, none⟩) 128 128) ∧ w'.heap[w.heap.size]? = some (.cells (secCells (headOf v)).toArray 5 (0, 0)) ∧ Below w.heap.size w w' := by
 have hmk := makeN 128 (by omega)
 have h0 : (w.alloc (.cells (secCells (zerosN 128)).toArray 5)).heap[w.heap.size]? = some (.cells (secCells (zerosN 128)).toArray 5 (0, 0)) := heap_alloc_new w _
 have hb0 : Below w.heap.size w (w.alloc (.cells (secCells (zerosN 128)).toArray 5)) := (Below.refl _ _).alloc (Nat.le_refl _) _
 obtain ⟨w0, hw0⟩ : ∃ w0, w.alloc (.cells (secCells (zerosN 128)).toArray 5) = w0 := ⟨_, rfl⟩
 have HW0 := hide hw0
 rw [hw0] at h0 hb0
 have hmk2 : (Instr.makeSlice 36 (.int .i64 128) (.int .i64 128)).run Tryz.prog w = .ok (.slice (some ⟨w.heap.size, 0, none⟩) 128 128) w0 := by rw [← hw0]; exact hmk w
 clear hmk hw0
 generalize w.heap.size = g at *
 go_enter Tryz.func155, Tryz.ntmps155
 go_wp2
 go_loopw [6] (fun i wr => ∃ k : Nat, k ≤ 8 ∧ i = .int .i64 k ∧ wr.heap[g]? = some (.cells (secCells ((be8 v).take k ++ (zerosN 128).drop k)).toArray 5 (0, 0)) ∧ Below g w wr) (fun i _ => 8 - (intOf i).toNat)
 case atStart => exact ⟨0, by omega, rfl, by simpa using h0, hb0⟩
 case round =>
  obtain ⟨k, hk, rfl, hg, ho⟩ := hrel
  have hlen : ((be8 v).take k ++ (zerosN 128).drop k).length = 128 := by simp [length_be8, zerosN]; omega
  by_cases hlt : k < 8
  · have hcell : wr.cell? ⟨g, k, none⟩ = some (.int .u8 (((be8 v).take k ++ (zerosN 128).drop k)[k]'(by omega)).toNat) := by rw [cell_of_row _ _ _ _ _ _ hg]; exact secCells_get _ k (by omega)
    have hfz := frozen_of_row wr g k _ _ hg
    go_wp2
    go_roundw
    case rel =>
     refine ⟨k + 1, by omega, rfl, ?_, ho.setCell (Nat.le_refl _) _⟩
     rw [be8_cell v k hlt, sec_setCell hg, set_mid _ _ _ (by rw [length_be8]; exact hlt) (by simp [zerosN]; omega)]
    case measure => simp [intOf]; omega
  · have hk8 : k = 8 := by omega
    subst hk8
    go_wp2
    go_ret
    refine ⟨rfl, ?_, ho⟩
    rw [hg]
    congr 4
end Go.Proofs.YteeembildppgmaaGreat
namespace Go.Proofs.YteeembildppgmaaGreat
open Go.RowKit
set_option linter.unusedVariables false
set_option linter.unusedSimpArgs false
theorem Tryz.info5' : ∃ i, Tryz.prog.info? 5 = some i ∧ i.zero = some (.int .u8 0) ∧ i.size = 1 ∧ i.bytes = 1 := by
 obtain ⟨i, hi, hz⟩ := Option.map_eq_some_iff.1 Tryz.info5
 simp only [Prod.mk.injEq] at hz
 exact ⟨i, hi, hz.1, hz.2.1, hz.2.2⟩
def cutAt (ao : Option Addr) (c l : Nat) : Option Addr := if c = l then ao else ao.map (·.add l)
theorem run_cut (w : World) (ao : Option Addr) (n c l h : Nat) (hl : l ≤ h) (hh : h ≤ c) :
 (Instr.sliceAt 36 (.slice ao n c) (some (.int .i64 (l : Int))) (some (.int .i64 (h : Int))) none).run Tryz.prog w = .ok (.slice (cutAt ao c l) (h - l) (c - l)) w := by
 have hu := Tryz.underlying36
 have hs : (Tryz.prog.info? 5).map (·.size) = some 1 := by kernel_rfl
 have h1 : (h : Int) ≤ (c : Int) := by omega
 have h2 : (l : Int) ≤ (h : Int) := by omega
 obtain ⟨i, hi, hz, hsz, hby⟩ := Tryz.info5'
 simp [Instr.sliceAt, Instr.slice, run_underlying hu, Instr.sliceBounds, Instr.sliceBound, asIntOf, h1, h2, sizeOf, typeInfo, hi, hsz, cutAt, Nat.mul_one]
 by_cases e : c = l
 · subst e; simp [hl, hh]
 · simp [e, hl, hh]
theorem run_cut_from (w : World) (ao : Option Addr) (n c l : Nat) (hl : l ≤ n) :
 (Instr.sliceAt 36 (.slice ao n c) (some (.int .i64 (l : Int))) none none).run Tryz.prog w = .ok (.slice (cutAt ao c l) (n - l) (c - l)) w := by
 have hu := Tryz.underlying36
 have h2 : (l : Int) ≤ (n : Int) := by omega
 obtain ⟨i, hi, hz, hsz, hby⟩ := Tryz.info5'
 simp [Instr.sliceAt, Instr.slice, run_underlying hu, Instr.sliceBounds, Instr.sliceBound, asIntOf, h2, sizeOf, typeInfo, hi, hsz, cutAt, Nat.mul_one]
 by_cases e : c = l
 · simp [e]; intro hx; omega
 · simp [e]; intro hx; omega

def secsOf : Nat → List UInt8 → List (List UInt8)
 | 0, _ => []
 | n + 1, b => b.take 128 :: secsOf n (b.drop 128)
def Dv.lay : Dv → Nat → List (List UInt8) → Int × Dv
 | D, _, [] => D.sync
 | D, i, s :: r => if (D.write (i : Nat) s).1 ≠ 0 then D.write (i : Nat) s else Dv.lay (D.write (i : Nat) s).2 (i + 1) r
def Dv.more (D : Dv) : Nat → Dv
 | 0 => D
 | k + 1 => { D.more k with calls := wrap64 ((D.more k).calls + 1) }
def Dv.four (D : Dv) (i : Nat) : List UInt8 := D.newest i ++ (D.newest (i + 1) ++ (D.newest (i + 2) ++ D.newest (i + 3)))

theorem write_W (D : Dv) (i : Int) (bs : List UInt8) : (D.write i bs).2.W.length ≤ D.W.length + 1 := by
 unfold Dv.write
 split
 · simp
 · split
   · simp
   · split
     · simp
     · simp [Dv.wrote]
theorem Off.drewN {fp : List Nat} {a w : World} (h : Off fp a w) (m : Nat) : Off fp a (w.drewN m) := ⟨h.os, h.tape, h.output, h.size, h.block⟩
theorem Off.undrewN {fp : List Nat} {a w : World} {m : Nat} (h : Off fp (a.drewN m) w) : Off fp a w := ⟨h.os, h.tape, h.output, h.size, h.block⟩
theorem below_drewN (B : Nat) (w : World) (m : Nat) : Below B w (w.drewN m) := ⟨rfl, rfl, rfl, Nat.le_refl _, fun _ _ => rfl⟩
theorem DevAt.drewN {w : World} {p : Nat} {fp : List Nat} {D : Dv} (h : DevAt w p fp D) (m : Nat) : DevAt (w.drewN m) p fp D := h.below (below_drewN _ _ _)
theorem SrcAt.drewN {w : World} {g o : Nat} {bs : List UInt8} (h : SrcAt w g o bs) (m : Nat) : SrcAt (w.drewN m) g o bs := h
def FileAt (w : World) (q p : Nat) (fr n : Nat) (failed : Bool) : Prop := w.heap[q]? = some (.cells #[.pointer (some ⟨p, 0, none⟩), .int .i64 (fr : Int), .int .i64 (n : Int), .bool failed] 164 (0, 0))
section
variable {w w' : World} {q p fr n : Nat} {failed : Bool}
theorem FileAt.c0 (h : FileAt w q p fr n failed) : w.cell? ⟨q, 0, none⟩ = some (.pointer (some ⟨p, 0, none⟩)) := by rw [cell_of_row w q 0 _ _ _ h]; rfl
theorem FileAt.c1 (h : FileAt w q p fr n failed) : w.cell? ⟨q, 1, none⟩ = some (.int .i64 (fr : Int)) := by rw [cell_of_row w q 1 _ _ _ h]; rfl
theorem FileAt.c2 (h : FileAt w q p fr n failed) : w.cell? ⟨q, 2, none⟩ = some (.int .i64 (n : Int)) := by rw [cell_of_row w q 2 _ _ _ h]; rfl
theorem FileAt.c3 (h : FileAt w q p fr n failed) : w.cell? ⟨q, 3, none⟩ = some (.bool failed) := by rw [cell_of_row w q 3 _ _ _ h]; rfl
theorem FileAt.fz (h : FileAt w q p fr n failed) (o : Nat) : w.frozen? ⟨q, o, none⟩ = false := frozen_of_row w q o _ _ h
theorem FileAt.lt (h : FileAt w q p fr n failed) : q < w.heap.size := (Array.getElem?_eq_some_iff.1 h).1
theorem FileAt.off {fp : List Nat} (h : FileAt w q p fr n failed) (ho : Off fp w w') (hq : q ∉ fp) : FileAt w' q p fr n failed := (ho.block q h.lt hq).trans h
theorem FileAt.below (h : FileAt w q p fr n failed) (hb : Below w.heap.size w w') : FileAt w' q p fr n failed := (hb.block q h.lt).trans h
end
theorem SrcAt.off {w w' : World} {g o : Nat} {bs : List UInt8} {fp : List Nat} (h : SrcAt w g o bs) (ho : Off fp w w') (hg : g ∉ fp) : SrcAt w' g o bs := h.of ho.size (ho.block g h.1 hg)
theorem SrcAt.cut {w : World} {g o : Nat} {bs : List UInt8} (h : SrcAt w g o bs) (l k : Nat) : SrcAt w g (o + l) ((bs.drop l).take k) := by
 refine ⟨h.1, fun j u hu => ?_⟩
 have e : secCells ((bs.drop l).take k) = ((secCells bs).drop l).take k := by simp [secCells]
 rw [e, List.getElem?_take] at hu
 split at hu
 · rw [List.getElem?_drop] at hu
   have := h.2 _ _ hu
   rw [Addr.add_mid] at this ⊢
   rw [Nat.add_assoc]
   exact this
 · simp at hu
theorem fresh_off {fp fq fp' : List Nat} {w wr : World} (hF : ∀ k ∈ fq, k ∈ fp ∨ w.heap.size ≤ k) (hO : Off fp w wr) (h : ∀ k ∈ fp', k ∈ fq ∨ wr.heap.size ≤ k) : ∀ k ∈ fp', k ∈ fp ∨ w.heap.size ≤ k := fun k hk => by
 rcases h k hk with h1 | h1
 · exact hF k h1
 · exact .inr (Nat.le_trans hO.size h1)
theorem fresh_not {fp fq : List Nat} {w : World} {q : Nat} (hq : q ∉ fp) (hl : q < w.heap.size) (hF : ∀ k ∈ fq, k ∈ fp ∨ w.heap.size ≤ k) : q ∉ fq := fun hm => by
 rcases hF q hm with h1 | h1
 · exact hq h1
 · omega

set_option maxHeartbeats 1000000 in
set_option maxRecDepth 100000 in
theorem lay_any {w : World} {q p fr n : Nat} {failed : Bool} {fp : List Nat} {D : Dv} (i g c m : Nat) (bs : List UInt8) (hl : bs.length = 128 * m) (hm : m ≤ 4) (hc : 128 * m ≤ c) (hf : FileAt w q p fr n failed) (hD : DevAt w p fp D) (hq : q ∉ fp)
 (hs : SrcAt w g 0 bs) (hg : g ∉ fp) (hW : D.W.length ≤ 900000) (hi : i ≤ 1099511627776) :
 Calls Tryz.prog 154 #[.pointer (some ⟨q, 0, none⟩), .int .i64 (i : Int), .slice (some ⟨g, 0, none⟩) (128 * m) c] w fun e w' => e = .returned (.int .i64 (D.lay i (secsOf m bs)).1) ∧
  ∃ fp', DevAt w' p fp' (D.lay i (secsOf m bs)).2 ∧ Off fp w w' ∧ ∀ k ∈ fp', k ∈ fp ∨ w.heap.size ≤ k := by
 obtain ⟨R, hR⟩ : ∃ R, D.lay i (secsOf m bs) = R := ⟨_, rfl⟩
 rw [hR]
 have HR := hide hR
 have HF := hide hf
 have HQ := hide hq
 have HS := hide hs
 have HG := hide hg
 have HL := hide hl
 clear hR hf hq hs hg hl
 have hquo : ((128 * m : Nat) : Int).tdiv 128 = (m : Int) := by rw [show ((128 * m : Nat) : Int) = 128 * (m : Int) by omega]; exact Int.mul_tdiv_cancel_left _ (by decide)
 go_enter Tryz.func154, Tryz.ntmps154
 go_wp2
 go_loopw [13] (fun j wr => ∃ (k : Nat) (fq : List Nat) (E : Dv), k ≤ m ∧ j = .int .i64 k ∧ DevAt wr p fq E ∧ Off fp w wr ∧ (∀ x ∈ fq, x ∈ fp ∨ w.heap.size ≤ x) ∧ E.W.length ≤ D.W.length + k ∧ R = E.lay (i + k) (secsOf (m - k) (bs.drop (128 * k)))) (fun j _ => m + 1 - (intOf j).toNat)
 case atStart => exact ⟨0, fp, D, by omega, rfl, hD, Off.refl _ _, fun k hk => .inl hk, by omega, by rw [← HR.out]; rfl⟩
 case round =>
  clear hD
  obtain ⟨k, fq, E, hk, rfl, hD, hO, hFr, hE, hR⟩ := hrel
  have HO := hide hO
  have HFr := hide hFr
  have HR2 := hide hR
  have hfa := HF.out.off hO HQ.out
  have k0 := hfa.c0
  clear hO hFr hR HR
  by_cases hlt : k < m
  · have hlc : ((bs.drop (128 * k)).take 128).length = 128 := by have := HL.out; simp; omega
    have hsrc := (HS.out.off HO.out HG.out).cut (128 * k) 128
    rw [Nat.zero_add] at hsrc
    have HWR := hide (fun d : Nat => write_dev p ((i + k : Nat) : Int) g (128 * k) (c - 128 * k) _ (wr.drewN d) fq E (hD.drewN d) (by omega) (hsrc.drewN d) (fresh_not HG.out HS.out.1 HFr.out))
    rw [hlc] at HWR
    have hst : secsOf (m - k) (bs.drop (128 * k)) = (bs.drop (128 * k)).take 128 :: secsOf (m - (k + 1)) (bs.drop (128 * (k + 1))) := by
     rw [show m - k = (m - (k + 1)) + 1 by omega, secsOf, List.drop_drop]
     rfl
    have HST := hide hst
    have hWW := write_W E ((i + k : Nat) : Int) ((bs.drop (128 * k)).take 128)
    obtain ⟨X, hX⟩ : ∃ X, E.write ((i + k : Nat) : Int) ((bs.drop (128 * k)).take 128) = X := ⟨_, rfl⟩
    rw [hX] at HWR hWW
    have HR3 : Hid (R = if X.1 ≠ 0 then X else X.2.lay (i + k + 1) (secsOf (m - (k + 1)) (bs.drop (128 * (k + 1))))) := by
     have := HR2.out
     rw [hst, Dv.lay, hX] at this
     exact this
    have HK0 := hide (fun (W : World) (ho : Off fq wr W) => (hfa.off ho (fresh_not HQ.out HF.out.lt HFr.out)).c0)
    clear HR2 hst hX hsrc hlc HST hD hfa
    obtain ⟨x, E2⟩ := X
    have hcut : ∀ u, (Instr.sliceAt 36 (.slice (some ⟨g, 0, none⟩) (128 * m) c) (some (.int .i64 ((k : Int) * 128))) (some (.int .i64 ((k : Int) * 128 + 128))) none).run Tryz.prog u = .ok (.slice (some ⟨g, 128 * k, none⟩) 128 (c - 128 * k)) u := fun u => by
     have := run_cut u (some ⟨g, 0, none⟩) (128 * m) c (128 * k) (128 * k + 128) (by omega) (by omega)
     rw [show ((128 * k : Nat) : Int) = (k : Int) * 128 by omega, show ((128 * k + 128 : Nat) : Int) = (k : Int) * 128 + 128 by omega, show 128 * k + 128 - 128 * k = 128 by omega] at this
     rw [this]
     unfold cutAt
     rw [if_neg (by omega)]
     simp [Addr.add_mid]
    have hw1 : IntKind.i64.wrap ((i : Int) + (k : Int)) = (i : Int) + (k : Int) := by rw [IntKind.wrap_i64]; omega
    have hw2 : IntKind.i64.wrap ((k : Int) * 128 + 128) = (k : Int) * 128 + 128 := by rw [IntKind.wrap_i64]; omega
    rw [show ((i + k : Nat) : Int) = (i : Int) + (k : Int) by omega] at HWR
    by_cases hx : x = 0
    · subst hx
      go_wp2
      go_region_held (fun w' => w'.cell? ⟨q, 0, none⟩ = some (.pointer (some ⟨p, 0, none⟩))) (simp [*])
       (first | (go_at_call 113; refine (HWR.out 1).mono ?_; rintro e w4 ⟨rfl, fp4, hD4, hO4, hF4⟩; have k04 := HK0.out w4 hO4.undrewN))
      go_wp2
      go_roundw
      case rel =>
       refine ⟨k + 1, fp4, E2, by omega, by go_num, hD4, HO.out.trans hO4.undrewN (fun x hx => HFr.out x hx), fresh_off HFr.out HO.out hF4, by omega, ?_⟩
       rw [HR3.out, if_neg (by simp)]
       rfl
      case measure => simp [intOf]; omega
    · have HR4 : Hid (R = (x, E2)) := by
       have := HR3.out
       rw [if_pos hx] at this
       exact this
      have hxb : (x != 0) = true := by simpa using hx
      go_wp2
      go_region_held (fun w' => w'.cell? ⟨q, 0, none⟩ = some (.pointer (some ⟨p, 0, none⟩))) (simp [*])
       (first | (go_at_call 113; refine (HWR.out 1).mono ?_; rintro e w4 ⟨rfl, fp4, hD4, hO4, hF4⟩; have k04 := HK0.out w4 hO4.undrewN))
      all_goals go_wp2
      all_goals go_ret
      all_goals
       rw [HR4.out]
       exact ⟨rfl, fp4, hD4, HO.out.trans hO4.undrewN (fun x hx => HFr.out x hx), fresh_off HFr.out HO.out hF4⟩
  · have hkm : k = m := by omega
    subst hkm
    have HSY := hide (sync_dev p wr fq E hD (by omega))
    have HR3 : Hid (R = E.sync) := by
     have := HR2.out
     rw [Nat.sub_self, secsOf, Dv.lay] at this
     exact this
    clear HR2 hD
    go_wp2_with (first | (go_at_call 114; refine HSY.out.mono ?_; rintro e w4 ⟨rfl, hD4, hO4⟩))
    go_ret
    rw [HR3.out]
    exact ⟨rfl, fq, hD4, HO.out.trans hO4 (fun i hi => HFr.out i hi), HFr.out⟩
end Go.Proofs.YteeembildppgmaaGreat
