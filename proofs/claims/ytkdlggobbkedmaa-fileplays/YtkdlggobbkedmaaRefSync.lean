/- What the document's Sync and Crash do. -/
import Derived.Test.YtkdlggobbkedmaaRefRead
namespace Go.Proofs.Ytkdlggobbkedmaa
open Go.RowKit
set_option linter.unusedVariables false
set_option linter.unusedSimpArgs false

theorem run_load54 (w : World) (p : Nat) (v : Value) (h : w.cell? ⟨p, 0, none⟩ = some v) : (Instr.loadAt 54 (.pointer (some ⟨p, 0, none⟩))).run Try.prog w = .ok v w := by
  have hu := Try.underlying54
  simp [go_sem, h]
theorem run_load55 (w : World) (p : Nat) (v : Value) (h : w.cell? ⟨p, 1, none⟩ = some v) : (Instr.loadAt 55 (.pointer (some ⟨p, 1, none⟩))).run Try.prog w = .ok v w := by
  have hu := Try.underlying55
  simp [go_sem, h]
theorem run_load9 (w : World) (p o : Nat) (v : Value) (h : w.cell? ⟨p, o, none⟩ = some v) : (Instr.loadAt 9 (.pointer (some ⟨p, o, none⟩))).run Try.prog w = .ok v w := by
  have hu := Try.underlying9
  simp [go_sem, h]
theorem run_index55 (w : World) (b n cap i : Nat) (h : i < n) : (Instr.indexAt 55 (.slice (some ⟨b, 0, none⟩) n cap) (.int .i64 (i : Int))).run Try.prog w = .ok (.pointer (some ⟨b, i * 2, none⟩)) w := by
  have hu := Try.underlying55
  have hs : (Try.prog.info? 83).map (·.size) = some 2 := by kernel_rfl
  obtain ⟨t, ht, hz⟩ := Option.map_eq_some_iff.1 hs
  have hlt : (i : Int) < n := by omega
  simp [Instr.indexAt, asIntOf, run_underlying hu, sizeOf, typeInfo, ht, hz, hlt, Addr.add_mid]
  intro h2
  omega
theorem run_index54 (w : World) (b n cap i : Nat) (h : i < n) : (Instr.indexAt 54 (.slice (some ⟨b, 0, none⟩) n cap) (.int .i64 (i : Int))).run Try.prog w = .ok (.pointer (some ⟨b, i, none⟩)) w := by
  have hu := Try.underlying54
  have hs : (Try.prog.info? 9).map (·.size) = some 1 := by kernel_rfl
  obtain ⟨t, ht, hz⟩ := Option.map_eq_some_iff.1 hs
  have hlt : (i : Int) < n := by omega
  simp [Instr.indexAt, asIntOf, run_underlying hu, sizeOf, typeInfo, ht, hz, hlt, Addr.add_mid]
  intro h2
  omega
/-- A sector is laid over another. -/
theorem RefIs.lay {w : World} {p lb lc : Nat} {fp : List Nat} {D : Dv} {cv : Value} (h : RefIs w p fp D (.slice (some ⟨lb, 0, none⟩) D.L.length lc) cv) (i : Nat) (hi : i < D.L.length) (s : List UInt8) :
    ∃ w', (Instr.storeAt 9 (.pointer (some ⟨lb, i, none⟩)) (.string (strOf s))).run Try.prog w = .ok () w' ∧ RefIs w' p fp { D with L := D.L.set i s } (.slice (some ⟨lb, 0, none⟩) D.L.length lc) cv ∧ Off [lb] w w' := by
  have hc := h.strAt i hi
  have hpl : p ≠ lb := fun e => h.ne1 (by simp [Value.ownBlock, e])
  rcases h.row.2 with ⟨h1, _⟩ | ⟨g, cap, cur, h1, _, hg, hnc, hcm, hcs, htake⟩
  · cases h1
  · injection h1 with h1 h2 h3
    injection h1 with h1
    injection h1 with h1
    subst h1 h3
    have hf : w.frozen? ⟨lb, i, none⟩ = false := frozen_of_row _ _ _ _ _ hg
    have hheap := heap_setCell_same w lb i _ _ (.string (strOf s)) hg
    refine ⟨w.setCell ⟨lb, i, none⟩ (.string (strOf s)), by simp [go_sem, hc, hf], ?_, (Off.refl _ w).setCell _ _ (.inl (by simp))⟩
    have hlen : (D.L.set i s).length = D.L.length := List.length_set
    refine ⟨?_, ?_, ?_, h.ne1, h.ne2, h.ne3, h.inP, h.inL, h.inC, fun k hk => by simpa [World.setCell] using h.lim k hk⟩
    · rw [heap_setCell_other w _ p _ hpl]; exact h.head
    · show World.ownsRow _ 0 9 1 _ (D.L.set i s).length _
      rw [hlen]
      refine ⟨by simp [strRow], .inr ⟨lb, lc, _, rfl, Nat.zero_le _, hheap, hnc, hcm, by simpa using hcs, ?_⟩⟩
      rw [Array.toList_setIfInBounds, List.take_set, htake]
      simp [strRow, List.map_set, strCell]
    · exact owns_of_block h.cache (fun k hk => heap_setCell_other w _ k _ (fun e => h.ne3 lb rfl (by rw [hk]; exact congrArg some e)))

set_option maxHeartbeats 400000 in
theorem rsync_dead (p : Nat) (w : World) (fp : List Nat) (D : Dv) (h : RefAt w p fp D) (hd : D.dead = true) :
    Calls Try.prog 47 #[.pointer (some ⟨p, 0, none⟩)] w fun e w' => e = .returned (.int .i64 50) ∧ w' = w := by
  obtain ⟨lv, cv, h⟩ := h
  have k3 := h.c3
  rw [hd] at k3
  go_enter Try.func47, Try.ntmps47
  go_wp2
  go_ret
  exact ⟨rfl, rfl⟩

set_option maxHeartbeats 400000 in
theorem rsync_burnt (p : Nat) (w : World) (fp : List Nat) (D : Dv) (h : RefAt w p fp D) (hd : D.dead = false) (hf : D.fuse = 0) :
    Calls Try.prog 47 #[.pointer (some ⟨p, 0, none⟩)] w fun e w' => e = .returned (.int .i64 50) ∧ RefAt w' p fp { D with dead := true } ∧ Off fp w w' := by
  obtain ⟨lv, cv, h⟩ := h
  have k3 := h.c3
  rw [hd] at k3
  have k2 := h.c2
  rw [hf] at k2
  have h1 := h.heads 3 (.bool true) { D with dead := true } rfl rfl rfl
  have HB := hide (rburn_dies p w _ k2 h.c3 (h.fz 3))
  clear hd hf
  go_enter Try.func47, Try.ntmps47
  go_wp2_with (first | (go_at_call 41; refine HB.out.mono ?_; rintro e w' ⟨rfl, rfl⟩))
  go_ret
  exact ⟨rfl, ⟨_, _, h1⟩, (Off.refl fp w).setCell _ _ (.inl h.inP)⟩

set_option maxHeartbeats 2000000 in
set_option maxRecDepth 100000 in
theorem rsync_ok (p : Nat) (w : World) (fp : List Nat) (D : Dv) (h : RefAt w p fp D) (hd : D.dead = false) (hf : D.fuse ≠ 0) (hfm : D.fuse ≤ 9223372036854775807) (hpos : 1 ≤ D.L.length) (hW : ∀ x ∈ D.W, x.1 < D.L.length) (hm : D.W.length < 1000000) :
    Calls Try.prog 47 #[.pointer (some ⟨p, 0, none⟩)] w fun e w' => e = .returned (.int .i64 0) ∧ RefAt w' p fp D.synced ∧ Off fp w w' := by
  obtain ⟨lv, cv, h⟩ := h
  have k3 := h.c3
  rw [hd] at k3
  have HB := hide (rburn_ok p w fp D lv cv h hf hfm)
  have hinP := h.inP
  have HW := hide hW
  clear hd hf hW
  go_enter Try.func47, Try.ntmps47
  go_wp2_with (first | fail)
  refine HB.out.mono ?_
  rintro e w1 ⟨rfl, h1, ho1⟩
  have hO1 : Off fp w w1 := ho1.mono (by simpa using hinP)
  clear HB k3 ho1 h
  obtain ⟨lb, lc, hlv⟩ := h1.formL hpos
  subst hlv
  obtain ⟨co, cc, hcv⟩ := own_len h1.cache
  subst hcv
  have hinL : lb ∈ fp := h1.inL lb rfl
  go_wp2_with fail
  go_loopw [4] (fun i wr => ∃ k : Nat, k ≤ D.W.length ∧ i = .int .i64 k ∧ RefIs wr p fp { D.burnt with L := laidOver D.L (D.W.take k) } (.slice (some ⟨lb, 0, none⟩) D.L.length lc) (.slice co D.W.length cc) ∧ Off fp w wr) (fun i _ => D.W.length - (intOf i).toNat)
  case atStart => exact ⟨0, Nat.zero_le _, rfl, h1, hO1⟩
  case round =>
    clear h1 hO1
    obtain ⟨k, hk, rfl, h3, hO3⟩ := hrel
    have k1 := h3.c1
    by_cases hlt : k < D.W.length
    · have hlen : (laidOver D.L (D.W.take k)).length = D.L.length := length_laidOver _ _
      have HX := hide (HW.out D.W[k] (List.getElem_mem hlt))
      obtain ⟨cb, hcb⟩ : ∃ cb, co = some ⟨cb, 0, none⟩ := by
        rcases h3.formC with ⟨_, hW⟩ | ⟨cb, c, hc⟩
        · have : D.W = [] := hW
          rw [this] at hlt; simp at hlt
        · injection hc with e1 _ _; exact ⟨cb, e1⟩
      subst hcb
      have hpl : p ≠ lb := fun e => h3.ne1 (by simp [Value.ownBlock, e])
      have hcl : cb ≠ lb := fun e => h3.ne3 lb rfl (by simp [Value.ownBlock, e])
      have h3' : RefIs wr p fp { D.burnt with L := laidOver D.L (D.W.take k) } (.slice (some ⟨lb, 0, none⟩) (laidOver D.L (D.W.take k)).length lc) (.slice (some ⟨cb, 0, none⟩) D.W.length cc) := by rw [hlen]; exact h3
      obtain ⟨e0, e1⟩ := h3.entAt k hlt
      obtain ⟨w5, hrun, h5, hO5⟩ := RefIs.lay (h3'.below ((Below.refl _ wr).drew)) D.W[k].1 (by show _ < (laidOver D.L (D.W.take k)).length; rw [hlen]; exact HX.out) D.W[k].2
      have E0 := hide e0
      have E1 := hide e1
      have HLN := hide hlen
      clear hlen h3'
      go_wp2_with fail
      refine wp_region_held_drew (S := fun w' => w'.heap[p]? = wr.heap[p]? ∧ w'.heap[cb]? = wr.heap[cb]?) (by kernel_rfl) ⟨rfl, rfl⟩ (fun hH => ?_)
      refine take_to 0 23 (.pointer (some ⟨p, 0, none⟩)) rfl (by kernel_rfl) (by kernel_rfl) (by kernel_rfl) (fun _ _ _ h => h) rfl (by rfl) (fun w _ => by rfl) hH ?_
      simp only [Act.put, List.setIfInBounds_toArray, List.set_cons_zero, List.set_cons_succ]
      refine take_to 1 24 (.pointer (some ⟨p, 0, none⟩)) rfl (by kernel_rfl) (by kernel_rfl) (by kernel_rfl) (fun _ _ _ h => h) rfl (by rfl) (fun w _ => by rfl) hH ?_
      simp only [Act.put, List.setIfInBounds_toArray, List.set_cons_zero, List.set_cons_succ]
      refine take_to 2 25 (.pointer (some ⟨p, 0, none⟩)) rfl (by kernel_rfl) (by kernel_rfl) (by kernel_rfl) (fun _ _ _ h => h) rfl (by rfl) (fun w _ => by kernel_rfl) hH ?_
      simp only [Act.put, List.setIfInBounds_toArray, List.set_cons_zero, List.set_cons_succ]
      refine take_to 3 26 (.slice (some ⟨lb, 0, none⟩) D.L.length lc) rfl (by kernel_rfl) (by kernel_rfl) (by kernel_rfl) (fun _ _ _ h => h) rfl (by rfl) (fun w hw => op_load _ _ 54 (.tmp 25) rfl (.pointer (some ⟨p, 0, none⟩)) _ rfl (run_load54 w p _ ((World.cell?_of_block hw.1).trans h3.c0))) hH ?_
      simp only [Act.put, List.setIfInBounds_toArray, List.set_cons_zero, List.set_cons_succ]
      refine take_to 4 27 (.pointer (some ⟨p, 0, none⟩)) rfl (by kernel_rfl) (by kernel_rfl) (by kernel_rfl) (fun _ _ _ h => h) rfl (by rfl) (fun w _ => by rfl) hH ?_
      simp only [Act.put, List.setIfInBounds_toArray, List.set_cons_zero, List.set_cons_succ]
      refine take_to 5 28 (.pointer (some ⟨p, 0, none⟩)) rfl (by kernel_rfl) (by kernel_rfl) (by kernel_rfl) (fun _ _ _ h => h) rfl (by rfl) (fun w _ => by rfl) hH ?_
      simp only [Act.put, List.setIfInBounds_toArray, List.set_cons_zero, List.set_cons_succ]
      refine take_to 6 29 (.pointer (some ⟨p, 1, none⟩)) rfl (by kernel_rfl) (by kernel_rfl) (by kernel_rfl) (fun _ _ _ h => h) rfl (by rfl) (fun w _ => by kernel_rfl) hH ?_
      simp only [Act.put, List.setIfInBounds_toArray, List.set_cons_zero, List.set_cons_succ]
      refine take_to 7 30 (.slice (some ⟨cb, 0, none⟩) D.W.length cc) rfl (by kernel_rfl) (by kernel_rfl) (by kernel_rfl) (fun _ _ _ h => h) rfl (by rfl) (fun w hw => op_load _ _ 55 (.tmp 29) rfl (.pointer (some ⟨p, 1, none⟩)) _ rfl (run_load55 w p _ ((World.cell?_of_block hw.1).trans h3.c1))) hH ?_
      simp only [Act.put, List.setIfInBounds_toArray, List.set_cons_zero, List.set_cons_succ]
      refine take_to 8 31 (.int .i64 (k : Int)) rfl (by kernel_rfl) (by kernel_rfl) (by kernel_rfl) (fun _ _ _ h => h) rfl (by rfl) (fun w _ => by rfl) hH ?_
      simp only [Act.put, List.setIfInBounds_toArray, List.set_cons_zero, List.set_cons_succ]
      refine take_to 9 32 (.pointer (some ⟨cb, k * 2, none⟩)) rfl (by kernel_rfl) (by kernel_rfl) (by kernel_rfl) (fun _ _ _ h => h) rfl (by rfl) (fun w _ => op_index _ _ 55 (.tmp 30) (.tmp 31) rfl _ _ _ rfl rfl (run_index55 w cb _ cc k hlt)) hH ?_
      simp only [Act.put, List.setIfInBounds_toArray, List.set_cons_zero, List.set_cons_succ]
      refine take_to 10 33 (.pointer (some ⟨cb, k * 2, none⟩)) rfl (by kernel_rfl) (by kernel_rfl) (by kernel_rfl) (fun _ _ _ h => h) rfl (by rfl) (fun w _ => by kernel_rfl) hH ?_
      simp only [Act.put, List.setIfInBounds_toArray, List.set_cons_zero, List.set_cons_succ]
      refine take_to 11 34 (.int .i64 (D.W[k].1 : Int)) rfl (by kernel_rfl) (by kernel_rfl) (by kernel_rfl) (fun _ _ _ h => h) rfl (by rfl) (fun w hw => op_load _ _ 3 (.tmp 33) rfl (.pointer (some ⟨cb, k * 2, none⟩)) _ rfl (run_load3 w cb (k * 2) _ ((World.cell?_of_block hw.2).trans e0))) hH ?_
      simp only [Act.put, List.setIfInBounds_toArray, List.set_cons_zero, List.set_cons_succ]
      refine take_to 12 35 (.pointer (some ⟨p, 0, none⟩)) rfl (by kernel_rfl) (by kernel_rfl) (by kernel_rfl) (fun _ _ _ h => h) rfl (by rfl) (fun w _ => by rfl) hH ?_
      simp only [Act.put, List.setIfInBounds_toArray, List.set_cons_zero, List.set_cons_succ]
      refine take_to 13 36 (.pointer (some ⟨p, 0, none⟩)) rfl (by kernel_rfl) (by kernel_rfl) (by kernel_rfl) (fun _ _ _ h => h) rfl (by rfl) (fun w _ => by rfl) hH ?_
      simp only [Act.put, List.setIfInBounds_toArray, List.set_cons_zero, List.set_cons_succ]
      refine take_to 14 37 (.pointer (some ⟨p, 1, none⟩)) rfl (by kernel_rfl) (by kernel_rfl) (by kernel_rfl) (fun _ _ _ h => h) rfl (by rfl) (fun w _ => by kernel_rfl) hH ?_
      simp only [Act.put, List.setIfInBounds_toArray, List.set_cons_zero, List.set_cons_succ]
      refine take_to 15 38 (.slice (some ⟨cb, 0, none⟩) D.W.length cc) rfl (by kernel_rfl) (by kernel_rfl) (by kernel_rfl) (fun _ _ _ h => h) rfl (by rfl) (fun w hw => op_load _ _ 55 (.tmp 37) rfl (.pointer (some ⟨p, 1, none⟩)) _ rfl (run_load55 w p _ ((World.cell?_of_block hw.1).trans h3.c1))) hH ?_
      simp only [Act.put, List.setIfInBounds_toArray, List.set_cons_zero, List.set_cons_succ]
      refine take_to 16 39 (.int .i64 (k : Int)) rfl (by kernel_rfl) (by kernel_rfl) (by kernel_rfl) (fun _ _ _ h => h) rfl (by rfl) (fun w _ => by rfl) hH ?_
      simp only [Act.put, List.setIfInBounds_toArray, List.set_cons_zero, List.set_cons_succ]
      refine take_to 17 40 (.pointer (some ⟨cb, k * 2, none⟩)) rfl (by kernel_rfl) (by kernel_rfl) (by kernel_rfl) (fun _ _ _ h => h) rfl (by rfl) (fun w _ => op_index _ _ 55 (.tmp 38) (.tmp 39) rfl _ _ _ rfl rfl (run_index55 w cb _ cc k hlt)) hH ?_
      simp only [Act.put, List.setIfInBounds_toArray, List.set_cons_zero, List.set_cons_succ]
      refine take_to 18 41 (.pointer (some ⟨cb, k * 2 + 1, none⟩)) rfl (by kernel_rfl) (by kernel_rfl) (by kernel_rfl) (fun _ _ _ h => h) rfl (by rfl) (fun w _ => by kernel_rfl) hH ?_
      simp only [Act.put, List.setIfInBounds_toArray, List.set_cons_zero, List.set_cons_succ]
      refine take_to 19 42 (.string (strOf D.W[k].2)) rfl (by kernel_rfl) (by kernel_rfl) (by kernel_rfl) (fun _ _ _ h => h) rfl (by rfl) (fun w hw => op_load _ _ 9 (.tmp 41) rfl (.pointer (some ⟨cb, k * 2 + 1, none⟩)) _ rfl (run_load9 w cb (k * 2 + 1) _ ((World.cell?_of_block hw.2).trans e1))) hH ?_
      simp only [Act.put, List.setIfInBounds_toArray, List.set_cons_zero, List.set_cons_succ]
      refine take_to 20 43 (.pointer (some ⟨lb, D.W[k].1, none⟩)) rfl (by kernel_rfl) (by kernel_rfl) (by kernel_rfl) (fun _ _ _ h => h) rfl (by rfl) (fun w _ => op_index _ _ 54 (.tmp 26) (.tmp 34) rfl _ _ _ rfl rfl (run_index54 w lb _ lc _ HX.out)) hH ?_
      simp only [Act.put, List.setIfInBounds_toArray, List.set_cons_zero, List.set_cons_succ]
      refine step_store_to 21 w5 rfl (by kernel_rfl) rfl (by rfl) 9 (.tmp 43) (.tmp 42) rfl _ _ rfl rfl hrun ?_ ?_
      · exact ⟨hO5.block p h3.lt (by simpa using hpl), hO5.block cb (h3.cache.lt cb rfl).2 (by simpa using hcl)⟩
      refine wpAnyH_done (by kernel_rfl) ?_ _
      have hO6 : Off fp w w5 := (hO3.drew).trans hO5 (by simpa using Or.inl hinL)
      have hsn : (laidOver D.L (D.W.take k)).set D.W[k].1 D.W[k].2 = laidOver D.L (D.W.take (k + 1)) := by
        rw [List.take_succ_eq_append_getElem hlt, laidOver_snoc]
      have h6 : RefIs w5 p fp { D.burnt with L := laidOver D.L (D.W.take (k + 1)) } (.slice (some ⟨lb, 0, none⟩) D.L.length lc) (.slice (some ⟨cb, 0, none⟩) D.W.length cc) := by
        rw [← hsn, ← HLN.out]; exact h5
      have H6 := hide h6
      clear h6 hsn h5 hrun e0 e1 hH k1
      go_wp2_with fail
      go_roundw
      case rel => exact ⟨k + 1, by omega, by go_num, H6.out, hO6⟩
      case measure => simp [intOf]; omega
    · have f1 := h3.fz 1
      have k4 := h3.c4
      have f4 := h3.fz 4
      have hk2 : D.W.take k = D.W := List.take_of_length_le (by omega)
      have h5 := h3.drop.heads 4 (.int .i64 (wrap64 (D.burnt.calls + 1))) { D.burnt with L := laidOver D.L (D.W.take k), W := [], calls := wrap64 (D.calls + 1) } rfl rfl rfl
      rw [hk2] at h5
      clear hk2
      go_wp2_with fail
      go_ret
      exact ⟨rfl, ⟨_, _, h5⟩, (hO3.setCell _ _ (.inl hinP)).setCell _ _ (.inl hinP)⟩

theorem rsync_dev (p : Nat) (w : World) (fp : List Nat) (D : Dv) (h : RefAt w p fp D) (hfm : D.fuse ≤ 9223372036854775807) (hpos : 1 ≤ D.L.length) (hW : ∀ x ∈ D.W, x.1 < D.L.length) (hm : D.W.length < 1000000) :
    Calls Try.prog 47 #[.pointer (some ⟨p, 0, none⟩)] w fun e w' => e = .returned (.int .i64 D.sync.1) ∧ RefAt w' p fp D.sync.2 ∧ Off fp w w' := by
  unfold Dv.sync
  by_cases hd : D.dead = true
  · simp only [hd, if_true]
    refine (rsync_dead p w fp D h hd).mono ?_
    rintro e w' ⟨rfl, rfl⟩
    exact ⟨rfl, h, Off.refl _ _⟩
  · have hd' : D.dead = false := by simpa using hd
    rw [if_neg hd]
    by_cases hf : D.fuse = 0
    · rw [if_pos hf]
      exact rsync_burnt p w fp D h hd' hf
    · rw [if_neg hf]
      exact rsync_ok p w fp D h hd' hf hfm hpos hW hm
end Go.Proofs.Ytkdlggobbkedmaa
