/- 'awake' answers true: what the document fixes of a file. -/
import Derived.Test.YtkdlggobbkedmaaFSteps
namespace Go.Proofs.Ytkdlggobbkedmaa
open Go.RowKit
set_option linter.unusedVariables false
set_option linter.unusedSimpArgs false

/-- A file stands, and a block holds bytes. -/
structure Aw (w0 w : World) (q p fr n gx : Nat) (bs : List UInt8) (D : Dv) : Prop where
  fs : Fs w0 w q p fr n false [gx] D
  at_ : w.heap[gx]? = some (.cells (secCells bs).toArray 5 (0, 0))
theorem Aw.belowW {w0 w w' : World} {q p fr n gx : Nat} {bs : List UInt8} {D : Dv} (h : Aw w0 w q p fr n gx bs D) (hb : Below w.heap.size w w') : Aw w0 w' q p fr n gx bs D :=
  ⟨h.fs.belowW hb, (hb.block gx (Array.getElem?_eq_some_iff.1 h.at_).1).trans h.at_⟩
theorem Aw.drew {w0 w : World} {q p fr n gx : Nat} {bs : List UInt8} {D : Dv} (h : Aw w0 w q p fr n gx bs D) : Aw w0 w.drew q p fr n gx bs D := h.belowW (below_drewN _ _ 1)

theorem op_eqlstrY (ρ : Operand → Value) (o : Oper) (x y : Operand) (tt : TypeId) (ho : o.op = .binOp .eql 9 x y tt) (Y : ByteArray) (hx : ρ x = .string Y) (hy : ρ y = .string Y) {w : World} : (execOp ρ o).run Try.prog w = .ok (.value (.bool true)) w := by
  have hu := Try.underlying9
  have he : (Y.toList == Y.toList) = true := by simp
  unfold execOp
  simp only [ho, hx, hy]
  simp [go_sem, hu, he]

set_option maxHeartbeats 2000000 in
set_option maxRecDepth 100000 in
theorem awake_true (w : World) : Calls Try.prog 12 #[] w fun e w' => e = .returned (.bool true) ∧ Below w.heap.size w w' := by
  have hm0 := mend_idle (D := Dv.fresh 20) rfl rfl 2 3 (fresh_head 20 2 (by omega))
  go_enter Try.func12, Try.ntmps12
  go_wp2_with fail
  refine (b_new 20 w (by omega) (by omega)).mono ?_
  rintro e w1 ⟨p, rfl, hD1⟩
  have HOP := hide (b_openOk 2 3 hD1 (by omega) (by simp [Dv.fresh]) (by simp [Dv.fresh]) hm0)
  clear hD1 hm0
  go_wp2_with fail
  refine HOP.out.mono ?_
  rintro e w2 ⟨q, rfl, hF2, _⟩
  clear HOP
  have HF2 := hide hF2
  clear hF2
  go_wp2_with fail
  refine (page_any 1 2 w2).mono ?_
  rintro e w3 ⟨rfl, hg3, hb3⟩
  have hF3 := HF2.out.mindNew (ys := [w2.heap.size]) hb3 (fun k hk => by simp at hk; exact .inr ⟨by omega, by rw [hk]; exact (Array.getElem?_eq_some_iff.1 hg3).1⟩)
  obtain ⟨E4, hc4, hw4, hW4, hL4, hn4⟩ := carJ_well (D := (Dv.fresh 20).more 1) (well_more (fresh_well 20 (by omega) (by omega)) 1) (by rw [more_W]; rfl) 2 0 3 (pg 1 2) (length_pg _ _) (by rw [more_L]; simp [Dv.fresh]) (by omega)
  have HWR := hide (b_write 0 w2.heap.size 512 (pg 1 2) hF3 (length_pg _ _) (by omega) (by simp) hg3 (by rw [more_W]; simp [Dv.fresh]) (by rw [more_L]; simp [Dv.fresh]) (by omega))
  rw [hc4] at HWR
  have hn4 : E4.calls = 15 := by rw [hn4, more_calls, cnt_cnt]; simp [cnt, wrap64, Dv.fresh]
  have hl4 : E4.L.length = 20 := by rw [hL4, length_wroteL, more_L]; simp [Dv.fresh]
  have hp4 : E4.four (2 + 5 + 4 * 0) = pg 1 2 := by
    rw [four_L hW4, hL4, page_wroteL _ 2 0 0 3 _ (length_pg _ _) (by rw [more_L]; simp [Dv.fresh]) (by omega) (by omega), if_pos rfl]
  clear hF3 hc4 hL4 hb3 HF2
  have HP4 := hide hp4
  have HN4 := hide hn4
  have HL4 := hide hl4
  have HW4 := hide hW4
  have HWE := hide hw4
  clear hp4 hn4 hl4 hW4 hw4
  go_wp2_with fail
  refine HWR.out.mono ?_
  rintro e w4 ⟨rfl, hF4, _⟩
  have hF4 : Fs w w4 q p 2 3 false [w2.heap.size] E4 := hF4
  have HRD := hide (b_read 0 hF4 HWE.out.live (by rw [HW4.out]; simp) (by rw [HL4.out]; omega) (by omega))
  rw [HP4.out] at HRD
  clear HWR hF4 hg3
  go_wp2_with fail
  refine HRD.out.mono ?_
  rintro e w5 ⟨gx, rfl, hgx, hg5, hF5, _⟩
  clear HRD
  have HA5 : Hid (Aw w w5 q p 2 3 gx (pg 1 2) (E4.more 4)) := ⟨hF5.mind (fun k hk => .inl (by simp at hk; simp [hk])), hg5⟩
  clear hF5 hg5 hgx
  have hcl : (E4.more 4).calls = 19 := by rw [more_calls, HN4.out]; simp [cnt, wrap64]
  have HCL := hide hcl
  clear hcl
  generalize E4.more 4 = E5 at *
  clear HWE HW4 HL4 HN4 HP4
  obtain ⟨X, hX⟩ : ∃ X, pg 1 2 = X := ⟨_, rfl⟩
  have HP12 := hide (fun W => page_any 1 2 W)
  have HP11 := hide (fun W => page_any 1 1 W)
  rw [hX] at HP12 HA5
  have hXl : X.length = 512 := by rw [← hX]; exact length_pg _ _
  clear hX
  have hA5 := HA5.out
  have hstr : ∀ W, Aw w W q p 2 3 gx X E5 → (convert 31 9 (.slice (some ⟨gx, 0, none⟩) 512 512)).run Try.prog W = .ok (.string (strOf X)) W := fun W h => run_str W gx 512 512 _ hXl h.at_
  have HPG := hide (fun (W : World) (h : Aw w W q p 2 3 gx X E5) => b_pages h.fs)
  have HCA := hide (fun (W : World) (h : Aw w W q p 2 3 gx X E5) => b_calls h.fs.devX)
  rw [HCL.out] at HCA
  have HWA := hide (fun (W : World) (g : Nat) (h : Aw w W q p 2 3 gx X E5) => b_writeArg 3 (some ⟨g, 0, none⟩) 512 512 h.fs (.inl (.inr (by omega))))
  have HXL := hide hXl
  clear hXl
  obtain ⟨Y, hY⟩ : ∃ Y, strOf X = Y := ⟨_, rfl⟩
  rw [hY] at hstr
  have HY := hide hY
  clear hY HCL
  go_wp2
  refine wp_region_held_drew (S := fun w' => Aw w w' q p 2 3 gx X E5) (by kernel_rfl) HA5.out.drew (fun hH => ?_)
  refine take_to 0 31 (.int .i64 0) rfl (by kernel_rfl) (by kernel_rfl) (by kernel_rfl) (fun _ _ _ h => h) rfl (by rfl) (fun w hw => by rfl) hH ?_
  simp only [Act.put, List.setIfInBounds_toArray, List.set_cons_zero, List.set_cons_succ]
  refine take_to 1 32 (.bool true) rfl (by kernel_rfl) (by kernel_rfl) (by kernel_rfl) (fun _ _ _ h => h) rfl (by rfl) (fun w hw => op_eql24 _ _ (.tmp 31) _ 24 rfl _ _ rfl rfl _ (by rfl)) hH ?_
  simp only [Act.put, List.setIfInBounds_toArray, List.set_cons_zero, List.set_cons_succ]
  refine take_to 2 33 (.bool true) rfl (by kernel_rfl) (by kernel_rfl) (by kernel_rfl) (fun _ _ _ h => h) rfl (by rfl) (fun w hw => by rfl) hH ?_
  simp only [Act.put, List.setIfInBounds_toArray, List.set_cons_zero, List.set_cons_succ]
  refine take_to 3 34 (.int .i64 0) rfl (by kernel_rfl) (by kernel_rfl) (by kernel_rfl) (fun _ _ _ h => h) rfl (by rfl) (fun w hw => by rfl) hH ?_
  simp only [Act.put, List.setIfInBounds_toArray, List.set_cons_zero, List.set_cons_succ]
  refine take_to 4 35 (.bool true) rfl (by kernel_rfl) (by kernel_rfl) (by kernel_rfl) (fun _ _ _ h => h) rfl (by rfl) (fun w hw => op_eql24 _ _ (.tmp 34) _ 24 rfl _ _ rfl rfl _ (by rfl)) hH ?_
  simp only [Act.put, List.setIfInBounds_toArray, List.set_cons_zero, List.set_cons_succ]
  refine take_to 5 36 (.bool true) rfl (by kernel_rfl) (by kernel_rfl) (by kernel_rfl) (fun _ _ _ h => h) rfl (by rfl) (fun w hw => by rfl) hH ?_
  simp only [Act.put, List.setIfInBounds_toArray, List.set_cons_zero, List.set_cons_succ]
  refine take_to 6 37 (.bool true) rfl (by kernel_rfl) (by kernel_rfl) (by kernel_rfl) (fun _ _ _ h => h) rfl (by rfl) (fun w hw => by rfl) hH ?_
  simp only [Act.put, List.setIfInBounds_toArray, List.set_cons_zero, List.set_cons_succ]
  refine take_to 7 38 (.pointer (some ⟨q, 0, none⟩)) rfl (by kernel_rfl) (by kernel_rfl) (by kernel_rfl) (fun _ _ _ h => h) rfl (by rfl) (fun w hw => by rfl) hH ?_
  simp only [Act.put, List.setIfInBounds_toArray, List.set_cons_zero, List.set_cons_succ]
  refine step_call1_to 8 39 23 rfl (by kernel_rfl) rfl (by rfl) (.tmp 38) _ rfl _ rfl Try.enters23 (HPG.out _ hH) ?_
  rintro e w' ⟨rfl, rfl⟩
  refine ⟨_, rfl, hH, ?_⟩
  simp only [Act.put, List.setIfInBounds_toArray, List.set_cons_zero, List.set_cons_succ]
  refine take_to 9 40 (.bool true) rfl (by kernel_rfl) (by kernel_rfl) (by kernel_rfl) (fun _ _ _ h => h) rfl (by rfl) (fun w hw => op_eql3 _ _ (.tmp 39) _ 3 rfl _ _ rfl rfl _ (by rfl)) hH ?_
  simp only [Act.put, List.setIfInBounds_toArray, List.set_cons_zero, List.set_cons_succ]
  refine take_to 10 41 (.bool true) rfl (by kernel_rfl) (by kernel_rfl) (by kernel_rfl) (fun _ _ _ h => h) rfl (by rfl) (fun w hw => by rfl) hH ?_
  simp only [Act.put, List.setIfInBounds_toArray, List.set_cons_zero, List.set_cons_succ]
  refine take_to 11 42 (.bool true) rfl (by kernel_rfl) (by kernel_rfl) (by kernel_rfl) (fun _ _ _ h => h) rfl (by rfl) (fun w hw => by rfl) hH ?_
  simp only [Act.put, List.setIfInBounds_toArray, List.set_cons_zero, List.set_cons_succ]
  refine take_to 12 43 (.slice (some ⟨gx, 0, none⟩) 512 512) rfl (by kernel_rfl) (by kernel_rfl) (by kernel_rfl) (fun _ _ _ h => h) rfl (by rfl) (fun w hw => by rfl) hH ?_
  simp only [Act.put, List.setIfInBounds_toArray, List.set_cons_zero, List.set_cons_succ]
  refine take_to 13 44 (.string Y) rfl (by kernel_rfl) (by kernel_rfl) (by kernel_rfl) (fun _ _ _ h => h) rfl (by rfl) (fun w hw => op_conv _ _ 31 9 (.tmp 43) rfl _ _ rfl (hstr w hw)) hH ?_
  simp only [Act.put, List.setIfInBounds_toArray, List.set_cons_zero, List.set_cons_succ]
  refine step_call2_to 14 45 8 rfl (by kernel_rfl) rfl (by rfl) (.const (.int .i64 1)) (.const (.int .i64 2)) _ rfl _ _ rfl rfl Try.enters8 (HP12.out _) ?_
  rintro e w6 ⟨rfl, hg6, hb6⟩
  have hA6 := HA5.out.drew.belowW hb6
  have st6 := run_str w6 w5.drew.heap.size 512 512 _ HXL.out hg6
  rw [HY.out] at st6
  refine ⟨_, rfl, hA6, ?_⟩
  simp only [Act.put, List.setIfInBounds_toArray, List.set_cons_zero, List.set_cons_succ]
  refine step_to 15 46 (.string Y) w6 rfl (by kernel_rfl) rfl (by rfl) (op_conv _ _ 31 9 (.tmp 45) rfl _ _ rfl st6) hA6 ?_
  simp only [Act.put, List.setIfInBounds_toArray, List.set_cons_zero, List.set_cons_succ]
  refine step_to 16 47 (.bool true) w6 rfl (by kernel_rfl) rfl (by rfl) (op_eqlstrY _ _ (.tmp 44) (.tmp 46) 9 rfl _ rfl rfl) hA6 ?_
  simp only [Act.put, List.setIfInBounds_toArray, List.set_cons_zero, List.set_cons_succ]
  refine step_to 17 48 (.bool true) w6 rfl (by kernel_rfl) rfl (by rfl) (rfl) hA6 ?_
  simp only [Act.put, List.setIfInBounds_toArray, List.set_cons_zero, List.set_cons_succ]
  refine step_to 18 49 (.bool true) w6 rfl (by kernel_rfl) rfl (by rfl) (rfl) hA6 ?_
  simp only [Act.put, List.setIfInBounds_toArray, List.set_cons_zero, List.set_cons_succ]
  refine take_to 19 50 (.pointer (some ⟨q, 0, none⟩)) rfl (by kernel_rfl) (by kernel_rfl) (by kernel_rfl) (fun _ _ _ h => h) rfl (by rfl) (fun w hw => by rfl) hA6 ?_
  simp only [Act.put, List.setIfInBounds_toArray, List.set_cons_zero, List.set_cons_succ]
  refine step_call2_to 20 51 8 rfl (by kernel_rfl) rfl (by rfl) (.const (.int .i64 1)) (.const (.int .i64 1)) _ rfl _ _ rfl rfl Try.enters8 (HP11.out _) ?_
  rintro e w7 ⟨rfl, hg7, hb7⟩
  have hA7 := hA6.belowW hb7
  refine ⟨_, rfl, hA7, ?_⟩
  simp only [Act.put, List.setIfInBounds_toArray, List.set_cons_zero, List.set_cons_succ]
  refine step_call3_to 21 52 9 rfl (by kernel_rfl) rfl (by rfl) (.tmp 50) (.const (.int .i64 3)) (.tmp 51) _ rfl _ _ _ rfl rfl rfl Try.enters9 (HWA.out w7 _ hA7) ?_
  rintro e w' ⟨rfl, rfl⟩
  refine ⟨_, rfl, hA7, ?_⟩
  simp only [Act.put, List.setIfInBounds_toArray, List.set_cons_zero, List.set_cons_succ]
  refine take_to 22 53 (.bool true) rfl (by kernel_rfl) (by kernel_rfl) (by kernel_rfl) (fun _ _ _ h => h) rfl (by rfl) (fun w hw => op_eql24 _ _ (.tmp 52) _ 24 rfl _ _ rfl rfl _ (by rfl)) hA7 ?_
  simp only [Act.put, List.setIfInBounds_toArray, List.set_cons_zero, List.set_cons_succ]
  refine take_to 23 54 (.bool true) rfl (by kernel_rfl) (by kernel_rfl) (by kernel_rfl) (fun _ _ _ h => h) rfl (by rfl) (fun w hw => by rfl) hA7 ?_
  simp only [Act.put, List.setIfInBounds_toArray, List.set_cons_zero, List.set_cons_succ]
  refine take_to 24 55 (.bool true) rfl (by kernel_rfl) (by kernel_rfl) (by kernel_rfl) (fun _ _ _ h => h) rfl (by rfl) (fun w hw => by rfl) hA7 ?_
  simp only [Act.put, List.setIfInBounds_toArray, List.set_cons_zero, List.set_cons_succ]
  refine take_to 25 56 (.pointer (some ⟨p, 0, none⟩)) rfl (by kernel_rfl) (by kernel_rfl) (by kernel_rfl) (fun _ _ _ h => h) rfl (by rfl) (fun w hw => by rfl) hA7 ?_
  simp only [Act.put, List.setIfInBounds_toArray, List.set_cons_zero, List.set_cons_succ]
  refine step_call1_to 26 57 31 rfl (by kernel_rfl) rfl (by rfl) (.tmp 56) _ rfl _ rfl Try.enters31 (HCA.out _ hA7) ?_
  rintro e w' ⟨rfl, rfl⟩
  refine ⟨_, rfl, hA7, ?_⟩
  simp only [Act.put, List.setIfInBounds_toArray, List.set_cons_zero, List.set_cons_succ]
  refine take_to 27 58 (.bool true) rfl (by kernel_rfl) (by kernel_rfl) (by kernel_rfl) (fun _ _ _ h => h) rfl (by rfl) (fun w hw => op_eql3 _ _ (.tmp 57) _ 3 rfl _ _ rfl rfl _ (by rfl)) hA7 ?_
  simp only [Act.put, List.setIfInBounds_toArray, List.set_cons_zero, List.set_cons_succ]
  refine take_to 28 59 (.bool true) rfl (by kernel_rfl) (by kernel_rfl) (by kernel_rfl) (fun _ _ _ h => h) rfl (by rfl) (fun w hw => by rfl) hA7 ?_
  simp only [Act.put, List.setIfInBounds_toArray, List.set_cons_zero, List.set_cons_succ]
  refine step_to 29 0 (.bool true) _ rfl (by kernel_rfl) rfl (by rfl) (rfl) hA7 ?_
  simp only [Act.put, List.setIfInBounds_toArray, List.set_cons_zero, List.set_cons_succ]
  refine wpAnyH_done (by kernel_rfl) ?_ _
  clear hH
  go_wp2
  go_ret
  exact ⟨rfl, hA7.fs.below⟩
end Go.Proofs.Ytkdlggobbkedmaa
