/- The document's pool: Dirty; the law's own comparison. -/
import Derived.Test.YtifoafiidplpiaaQPut
import Derived.Test.YtifoafiidplpiaaCOps
namespace Go.Proofs.Ytifoafiidplpiaa
open Go.RowKit
set_option linter.unusedVariables false
set_option linter.unusedSimpArgs false

theorem hd7a {w : World} {v : Value} {d : List (Int × Int)} (h : DirtAt w v d) : ∃ ao c, v = .slice ao d.length c ∧ True := let ⟨ao, c, h1, _⟩ := h; ⟨ao, c, h1, trivial⟩
theorem hd7b {w : World} {ao : Option Addr} {n c : Nat} {d : List (Int × Int)} (h : DirtAt w (.slice ao n c) d) (j : Nat) (x : Int × Int) (hx : d[j]? = some x) : ∃ g, ao = some ⟨g, 0, none⟩ ∧ w.cell? ⟨g, j * 2, none⟩ = some (.int .i64 x.1) ∧ w.cell? ⟨g, j * 2 + 1, none⟩ = some (.int .i64 x.2) := by
  obtain ⟨ao', c', h1, h2⟩ := h
  obtain ⟨g, a1, a2, a3⟩ := h2 j x hx
  injection h1 with h3 h4 h5
  exact ⟨g, h3.trans a1, a2, a3⟩
set_option maxHeartbeats 1000000 in
set_option maxRecDepth 100000 in
theorem dirtyq_any (w : World) (va vb : Value) (d : List (Int × Int)) (hl : d.length ≤ 100) (ha : DirtAt w va d) (hb : DirtAt w vb d) : Calls Try.prog 23 #[va, vb] w fun e w' => e = .returned (.bool true) ∧ Below w.heap.size w w' := by
  obtain ⟨ao, ca, rfl, _⟩ := hd7a ha
  obtain ⟨bo, cb, rfl, _⟩ := hd7a hb
  have HA := hide ha
  have HB := hide hb
  clear ha hb
  obtain ⟨n, hn⟩ : ∃ n, d.length = n := ⟨_, rfl⟩
  rw [hn] at HA HB hl ⊢
  have HN := hide hn
  clear hn
  go_enter Try.func23, Try.ntmps23
  go_wp2
  go_loopw [5] (fun i wr => ∃ k : Nat, k ≤ n ∧ i = .int .i64 k ∧ Below w.heap.size w wr) (fun i _ => n - (intOf i).toNat)
  case atStart => exact ⟨0, by omega, rfl, Below.refl _ _⟩
  case round =>
    obtain ⟨k, hk, rfl, hbx⟩ := hrel
    have HBX := hide hbx
    clear hbx
    by_cases hlt : k < n
    · obtain ⟨x, hx⟩ : ∃ x, d[k]? = some x := ⟨_, List.getElem?_eq_getElem (by rw [HN.out]; exact hlt)⟩
      obtain ⟨ga, hga, a1, a2⟩ := hd7b (HA.out.below HBX.out) k x hx
      obtain ⟨gb, hgb, b1, b2⟩ := hd7b (HB.out.below HBX.out) k x hx
      subst hga hgb
      clear hx
      go_wp2
      refine wp_region_held_drew (S := fun w' => (w'.cell? ⟨ga, k * 2, none⟩ = some (.int .i64 x.1) ∧ w'.cell? ⟨ga, k * 2 + 1, none⟩ = some (.int .i64 x.2)) ∧ w'.cell? ⟨gb, k * 2, none⟩ = some (.int .i64 x.1) ∧ w'.cell? ⟨gb, k * 2 + 1, none⟩ = some (.int .i64 x.2)) (by kernel_rfl) ⟨⟨a1, a2⟩, b1, b2⟩ (fun hH => ?_)
      refine take_to 0 17 (.slice (some ⟨ga, 0, none⟩) n ca) rfl (by kernel_rfl) (by kernel_rfl) (by kernel_rfl) (fun _ _ _ h => h) rfl (by rfl) (fun w hw => by rfl) hH ?_
      simp only [Act.put, List.setIfInBounds_toArray, List.set_cons_zero, List.set_cons_succ]
      refine take_to 1 18 (.int .i64 (k : Int)) rfl (by kernel_rfl) (by kernel_rfl) (by kernel_rfl) (fun _ _ _ h => h) rfl (by rfl) (fun w hw => by rfl) hH ?_
      simp only [Act.put, List.setIfInBounds_toArray, List.set_cons_zero, List.set_cons_succ]
      refine take_to 2 19 (.pointer (some ⟨ga, k * 2, none⟩)) rfl (by kernel_rfl) (by kernel_rfl) (by kernel_rfl) (fun _ _ _ h => h) rfl (by rfl) (fun w hw => op_index _ _ 42 (.tmp 17) (.tmp 18) rfl _ _ _ rfl rfl (run_index42 w ga _ _ _ hlt)) hH ?_
      simp only [Act.put, List.setIfInBounds_toArray, List.set_cons_zero, List.set_cons_succ]
      refine take_to 3 20 (.agg #[.int .i64 x.1, .int .i64 x.2]) rfl (by kernel_rfl) (by kernel_rfl) (by kernel_rfl) (fun _ _ _ h => h) rfl (by rfl) (fun w hw => op_load _ _ 45 (.tmp 19) rfl (.pointer (some ⟨ga, k * 2, none⟩)) _ rfl (run_load45 w ga (k * 2) _ _ hw.1.1 hw.1.2)) hH ?_
      simp only [Act.put, List.setIfInBounds_toArray, List.set_cons_zero, List.set_cons_succ]
      refine take_to 4 21 (.slice (some ⟨gb, 0, none⟩) n cb) rfl (by kernel_rfl) (by kernel_rfl) (by kernel_rfl) (fun _ _ _ h => h) rfl (by rfl) (fun w hw => by rfl) hH ?_
      simp only [Act.put, List.setIfInBounds_toArray, List.set_cons_zero, List.set_cons_succ]
      refine take_to 5 22 (.int .i64 (k : Int)) rfl (by kernel_rfl) (by kernel_rfl) (by kernel_rfl) (fun _ _ _ h => h) rfl (by rfl) (fun w hw => by rfl) hH ?_
      simp only [Act.put, List.setIfInBounds_toArray, List.set_cons_zero, List.set_cons_succ]
      refine take_to 6 23 (.pointer (some ⟨gb, k * 2, none⟩)) rfl (by kernel_rfl) (by kernel_rfl) (by kernel_rfl) (fun _ _ _ h => h) rfl (by rfl) (fun w hw => op_index _ _ 42 (.tmp 21) (.tmp 22) rfl _ _ _ rfl rfl (run_index42 w gb _ _ _ hlt)) hH ?_
      simp only [Act.put, List.setIfInBounds_toArray, List.set_cons_zero, List.set_cons_succ]
      refine take_to 7 24 (.agg #[.int .i64 x.1, .int .i64 x.2]) rfl (by kernel_rfl) (by kernel_rfl) (by kernel_rfl) (fun _ _ _ h => h) rfl (by rfl) (fun w hw => op_load _ _ 45 (.tmp 23) rfl (.pointer (some ⟨gb, k * 2, none⟩)) _ rfl (run_load45 w gb (k * 2) _ _ hw.2.1 hw.2.2)) hH ?_
      simp only [Act.put, List.setIfInBounds_toArray, List.set_cons_zero, List.set_cons_succ]
      refine take_to 8 25 (.bool false) rfl (by kernel_rfl) (by kernel_rfl) (by kernel_rfl) (fun _ _ _ h => h) rfl (by rfl) (fun w hw => op_neq45 _ _ (.tmp 20) (.tmp 24) 45 rfl _ _ rfl rfl) hH ?_
      simp only [Act.put, List.setIfInBounds_toArray, List.set_cons_zero, List.set_cons_succ]
      refine wpAnyH_done (by kernel_rfl) ?_ _
      clear hH a1 a2 b1 b2
      go_wp2
      go_roundw
      case rel => exact ⟨k + 1, by omega, by go_num, HBX.out.trans ((below_drewN _ _ 1).mono HBX.out.size)⟩
      case measure => simp [intOf]; omega
    · go_wp2
      go_ret
      exact ⟨rfl, HBX.out⟩

/-! ### Dirty -/
def dirtAt (S : Pl (List Int)) (n : Nat) : List (Int × Int) := match S.find (n : Int) with
  | some i => if (S.fs.getD i Fm.nil).dirty = true then [((n : Int), (S.fs.getD i Fm.nil).rlsn)] else []
  | none => []
def dirtE (S : Pl (List Int)) (k : Nat) : List (Int × Int) := (List.range k).flatMap (dirtAt S)
theorem dirtE_succ (S : Pl (List Int)) (k : Nat) : dirtE S (k + 1) = dirtE S k ++ dirtAt S k := by
  unfold dirtE
  rw [List.range_succ, List.flatMap_append]
  simp
theorem dirtE_le (S : Pl (List Int)) : ∀ k, (dirtE S k).length ≤ k
  | 0 => by simp [dirtE]
  | k + 1 => by
    have := dirtE_le S k
    rw [dirtE_succ, List.length_append]
    have : (dirtAt S k).length ≤ 1 := by
      unfold dirtAt
      split
      · split <;> simp
      · simp
    omega
section
variable {w w' : World} {r gD gF cD cF : Nat} {dx fx : List Value} {fov : Value} {S : Pl (List Int)} {bad : Int} {fp : List Nat}
set_option maxHeartbeats 2000000 in
set_option maxRecDepth 100000 in
theorem rdirty_any (h : RefIs w r gD gF cD cF dx fx fov S bad) :
    Calls Try.prog 24 #[.pointer (some ⟨r, 0, none⟩)] w fun e w' => ∃ v, e = .returned v ∧ DirtAt w' v (dirtE S 6) ∧ Below w.heap.size w w' := by
  have H := hide h
  clear h
  go_enter Try.func24, Try.ntmps24
  go_wp2
  go_loopw [4, 3] (fun i v wr => ∃ k : Nat, k ≤ 6 ∧ i = .int .i64 k ∧ Off [] w wr ∧ wr.ownsRow 0 45 2 v (dirtE S k).length (cellsD (dirtE S k)) ∧ (∀ b, v.ownBlock = some b → w.heap.size ≤ b)) (fun i _ _ => 6 - (intOf i).toNat)
  case atStart => exact ⟨0, by omega, rfl, Off.refl _ _, ⟨by simp [dirtE, cellsD], .inl ⟨rfl, by simp [dirtE]⟩⟩, fun b hb => by simp [Value.ownBlock] at hb⟩
  case round =>
    obtain ⟨k, hk, rfl, hO, hown, hnew⟩ := hrel
    have HO := hide hO
    have HOWN := hide hown
    have HNEW := hide hnew
    have hw : RefIs wr r gD gF cD cF dx fx fov S bad := H.out.stay (fun k hk => hO.block k (H.out.lts k hk) (by simp))
    clear hO hown hnew
    have c0 := hw.c0
    have c1 := hw.c1
    have hi64 := hw.f2
    have HW := hide hw
    clear hw
    have HLE := hide (dirtE_le S k)
    by_cases hk6 : k < 6
    · have HFI := hide (rfind_any HW.out (k : Int))
      rw [rfind_eq S (k : Int) (by omega)] at HFI
      cases hf : S.find (k : Int) with
      | none =>
        rw [hf] at HFI
        have HFI : Hid (Calls Try.prog 42 #[.pointer (some ⟨r, 0, none⟩), .int .i64 (k : Int)] wr fun e w' => e = .returned (.int .i64 (-1)) ∧ w' = wr) := HFI
        have HST : Hid (dirtE S (k + 1) = dirtE S k) := by show _ = _; rw [dirtE_succ]; unfold dirtAt; rw [hf]; simp
        clear hf
        go_wp2_with (go_at_call 42; refine HFI.out.mono ?_; rintro e w' ⟨rfl, hw⟩; have hw := hw.symm; subst hw)
        go_roundw
        case rel => exact ⟨k + 1, by omega, by go_num, HO.out, by rw [HST.out]; exact HOWN.out, HNEW.out⟩
        case measure => simp [intOf]; omega
      | some i =>
        obtain ⟨f, hfi, hfd, hhe, hpm, hfm, hi⟩ := find_some hf
        rw [hf] at HFI
        have HFI : Hid (Calls Try.prog 42 #[.pointer (some ⟨r, 0, none⟩), .int .i64 (k : Int)] wr fun e w' => e = .returned (.int .i64 (i : Int)) ∧ w' = wr) := HFI
        obtain ⟨_, d0, d1, d2, d3, d4, d5⟩ := HW.out.cells i f hfi
        obtain ⟨N, hN⟩ : ∃ N, S.fs.length = N := ⟨_, rfl⟩
        rw [hN] at c1 hi hi64
        clear d0 d1 d3 d4 hN hfi hhe hpm hfm
        by_cases hd : f.dirty = true
        · rw [hd] at d2
          have HST : Hid (dirtE S (k + 1) = dirtE S k ++ [((k : Int), f.rlsn)]) := by show _ = _; rw [dirtE_succ]; unfold dirtAt; rw [hf]; simp only [hfd]; rw [if_pos hd]
          obtain ⟨y, hy⟩ : ∃ y, f.rlsn = y := ⟨_, rfl⟩
          rw [hy] at d5 HST
          have HO2 : Hid (Off [] wr (wr.alloc (.cells #[.int .i64 (k : Int), .int .i64 y] 45))) := (Off.refl _ _).alloc _
          have HOWN2 := hide (owns_of_block HOWN.out (fun b hb => HO2.out.block b ((HOWN.out.lt b hb).2) (by simp)))
          have HNW : Hid ((wr.alloc (.cells #[.int .i64 (k : Int), .int .i64 y] 45)).heap[wr.heap.size]? = some (.cells (encD ((k : Int), y)).toArray 45 (0, 0))) := heap_alloc_new _ _
          have HSRC := hide (src_of_block HNW.out)
          clear hd hf hfd hy
          go_wp2_with (first
            | (go_at_call 42; refine HFI.out.mono ?_; rintro e w' ⟨rfl, hw⟩; have hw := hw.symm; subst hw)
            | (refine wpList_append_owned rfl _ _ 42 rfl 45 (.agg #[.int .i64 0, .int .i64 0]) 2 16 Try.underlying42 Try.info45 rfl (by omega) _ _ _ rfl HOWN2.out ⟨wr.heap.size, 0, none⟩ 1 1 (encD ((k : Int), y)) rfl rfl HSRC.out (by intro u hu; simp [encD] at hu; rcases hu with rfl | rfl <;> rfl) (by have := HLE.out; simp only [maxLen]; omega) (by have := HLE.out; omega) ?_; intro v4 w4 r1 r2 r3; have H4 := hide (And.intro r1 (And.intro r2 r3)); clear r1 r2 r3))
          go_roundw
          case rel =>
            have hO4 := (HO.out.trans (fp' := []) (HO2.out) (fun i hi => by simp at hi))
            refine ⟨k + 1, by omega, by go_num, hO4.grown H4.out.2.1 (fun b hb => .inr (HNEW.out b hb)), ?_, fun b hb => ?_⟩
            · rw [HST.out, List.length_append, cellsD_snoc]
              exact H4.out.1
            · rcases H4.out.2.2 b hb with h1 | h1
              · exact HNEW.out b h1
              · have := hO4.size; omega
          case measure => simp [intOf]; omega
        · have hd' : f.dirty = false := by simpa using hd
          rw [hd'] at d2
          have HST : Hid (dirtE S (k + 1) = dirtE S k) := by show _ = _; rw [dirtE_succ]; unfold dirtAt; rw [hf]; simp only [hfd]; rw [if_neg hd]; simp
          clear hd hd' hf hfd
          go_wp2_with (go_at_call 42; refine HFI.out.mono ?_; rintro e w' ⟨rfl, hw⟩; have hw := hw.symm; subst hw)
          go_roundw
          case rel => exact ⟨k + 1, by omega, by go_num, HO.out, by rw [HST.out]; exact HOWN.out, HNEW.out⟩
          case measure => simp [intOf]; omega
    · have hk' : k = 6 := by omega
      subst hk'
      have HB := hide (HO.out.below (Nat.le_refl _) (fun k hk => by simp at hk))
      go_wp2
      go_ret
      refine ⟨_, rfl, ?_, HB.out⟩
      obtain ⟨hl, hcase⟩ := HOWN.out
      rcases hcase with ⟨rfl, hn0⟩ | ⟨g, cap, cur, rfl, hg0, hblk, hnc, hcm, hcs, htk⟩
      · have hnil : dirtE S 6 = [] := List.eq_nil_of_length_eq_zero hn0
        rw [hnil]
        exact ⟨none, 0, rfl, fun j x hx => by simp at hx⟩
      · have hH := holds_of_owns hblk htk
        have := dirt_of_holds (c := cap) hH
        simpa using this
end
end Go.Proofs.Ytifoafiidplpiaa
