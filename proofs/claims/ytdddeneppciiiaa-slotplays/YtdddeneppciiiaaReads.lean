/- The walk of the law SlotReads. -/
import Derived.Test.YtdddeneppciiiaaAsks
import Derived.Test.YtdddeneppciiiaaRefD
import Derived.Test.YtdddeneppciiiaaNext
namespace Go.Proofs.Ytdddeneppciiiaa
open Go.RowKit
set_option linter.unusedVariables false
set_option linter.unusedSimpArgs false

theorem wpAnyH_strong {P : Program} {ops : Array Oper} {Q : Exit → Act → World → Prop} {md : Region.Mode} {S S' : World → Prop} (hS : ∀ w, S' w → S w) : ∀ (fuel : Nat) (listed : Array Bool) (a : Act) (w : World), wpAnyH P md ops Q S' fuel listed a w → wpAnyH P md ops Q S fuel listed a w
  | 0, _, _, _, h => h
  | fuel + 1, _, _, _, h => ⟨h.1, fun i hi => wpOp_mono (fun a' w' h' => ⟨hS _ h'.1, wpAnyH_strong hS fuel _ a' w' h'.2⟩) (h.2 i hi)⟩
def pnOf (r : Int × Option (Nat × List UInt8)) : Nat := match r.2 with | none => 0 | some (k, _) => k
def pxOf (r : Int × Option (Nat × List UInt8)) : List UInt8 := match r.2 with | none => [] | some (_, X) => X
def peOf (r : Int × Option (Nat × List UInt8)) : Int := match r.2 with | none => r.1 | some _ => 0
def dxOf (r : Int × Option (List UInt8)) : List UInt8 := match r.2 with | none => [] | some X => X
def deOf (r : Int × Option (List UInt8)) : Int := match r.2 with | none => r.1 | some _ => 0
theorem PutEnd.form {w : World} {r : Int × Option (Nat × List UInt8)} {e : Ending} {w' : World} (h : PutEnd w r e w') : ∃ a c, e = .returned (.tuple #[.int .i64 (pnOf r : Int), .slice a (pxOf r).length c, .int .i64 (peOf r)]) ∧ Sl w' (.slice a (pxOf r).length c) (pxOf r) ∧ Below w.heap.size w w' := by
  obtain ⟨n, o⟩ := r
  obtain ⟨hb, h⟩ := h
  cases o with
  | none => exact ⟨none, 0, h, Sl.nil w', hb⟩
  | some p =>
    obtain ⟨k, X⟩ := p
    obtain ⟨v, rfl, hs⟩ := h
    obtain ⟨a, c, e3⟩ := sl_form hs
    subst e3
    exact ⟨a, c, rfl, hs, hb⟩
theorem RPutEnd.form {w : World} {r : Int × Option (Nat × List UInt8)} {e : Ending} {w' : World} (h : RPutEnd w r e w') : ∃ a c, e = .returned (.agg #[.int .i64 (pnOf r : Int), .slice a (pxOf r).length c, .int .i64 (peOf r)]) ∧ Sl w' (.slice a (pxOf r).length c) (pxOf r) ∧ Below w.heap.size w w' := by
  obtain ⟨n, o⟩ := r
  obtain ⟨hb, h⟩ := h
  cases o with
  | none => exact ⟨none, 0, h, Sl.nil w', hb⟩
  | some p =>
    obtain ⟨k, X⟩ := p
    obtain ⟨a, c, rfl, hs⟩ := h
    obtain ⟨a', c', e3⟩ := sl_form hs
    have e4 : 504 = X.length := by injection e3
    refine ⟨a, c, ?_, ?_, hb⟩
    · show Ending.returned (.agg #[.int .i64 (k : Int), .slice a 504 c, .int .i64 0]) = .returned (.agg #[.int .i64 (k : Int), .slice a X.length c, .int .i64 0])
      rw [← e4]
    · show Sl w' (.slice a X.length c) X
      rw [← e4]
      exact hs
theorem DelEnd.form {w : World} {r : Int × Option (List UInt8)} {e : Ending} {w' : World} (h : DelEnd w r e w') : ∃ a c, e = .returned (.tuple #[.slice a (dxOf r).length c, .int .i64 (deOf r)]) ∧ Sl w' (.slice a (dxOf r).length c) (dxOf r) ∧ Below w.heap.size w w' := by
  obtain ⟨n, o⟩ := r
  obtain ⟨hb, h⟩ := h
  cases o with
  | none => exact ⟨none, 0, h, Sl.nil w', hb⟩
  | some X =>
    obtain ⟨v, rfl, hs⟩ := h
    obtain ⟨a, c, e3⟩ := sl_form hs
    subst e3
    exact ⟨a, c, rfl, hs, hb⟩
theorem REnd.form {w : World} {r : Int × Option (List UInt8)} {e : Ending} {w' : World} (h : REnd w r e w') : ∃ a c, e = .returned (.tuple #[.slice a (dxOf r).length c, .int .i64 (deOf r)]) ∧ Sl w' (.slice a (dxOf r).length c) (dxOf r) ∧ Below w.heap.size w w' := by
  obtain ⟨n, o⟩ := r
  obtain ⟨hb, h⟩ := h
  cases o with
  | none => exact ⟨none, 0, h, Sl.nil w', hb⟩
  | some X =>
    obtain ⟨a, c, rfl, hs⟩ := h
    obtain ⟨a', c', e3⟩ := sl_form hs
    have e4 : 504 = X.length := by injection e3
    refine ⟨a, c, ?_, ?_, hb⟩
    · show Ending.returned (.tuple #[.slice a 504 c, .int .i64 0]) = .returned (.tuple #[.slice a X.length c, .int .i64 0])
      rw [← e4]
    · show Sl w' (.slice a X.length c) X
      rw [← e4]
      exact hs
/-- What holds while the last region of SlotReads is walked. -/
structure RdS (v0 : Value) (bs X Y Z : List UInt8) (p1 p2 s1 s2 d1 d2 : Value) (bx : Nat) (n : Nat) (e1 : Int) (w : World) : Prop where
  page : Sl w v0 bs
  q1 : Sl w p1 X
  q2 : Sl w p2 X
  t1 : Sl w s1 Y
  t2 : Sl w s2 Y
  u1 : Sl w d1 Z
  u2 : Sl w d2 Z
  c0 : w.cell? ⟨bx, 0, none⟩ = some (.int .i64 (n : Int))
  c1 : w.cell? ⟨bx, 1, none⟩ = some p2
  c2 : w.cell? ⟨bx, 2, none⟩ = some (.int .i64 e1)
theorem RdS.step {v0 : Value} {bs X Y Z : List UInt8} {p1 p2 s1 s2 d1 d2 : Value} {bx : Nat} {n : Nat} {e1 : Int} {A B : World} (h : RdS v0 bs X Y Z p1 p2 s1 s2 d1 d2 bx n e1 A) (hb : Below A.heap.size A B) : RdS v0 bs X Y Z p1 p2 s1 s2 d1 d2 bx n e1 B :=
  ⟨h.page.belowW hb, h.q1.belowW hb, h.q2.belowW hb, h.t1.belowW hb, h.t2.belowW hb, h.u1.belowW hb, h.u2.belowW hb, (hb.cell (World.block_lt_of_cell? _ _ h.c0)).trans h.c0, (hb.cell (World.block_lt_of_cell? _ _ h.c1)).trans h.c1, (hb.cell (World.block_lt_of_cell? _ _ h.c2)).trans h.c2⟩
set_option maxHeartbeats 4000000 in
set_option maxRecDepth 100000 in
theorem reads_walk {w : World} {v0 v1 : Value} {bs d : List UInt8} (h0 : Sl w v0 bs) (h1 : Sl w v1 d) (i : Int) (hl : bs.length ≤ 140737488355328) : Calls Try.prog 5 #[v0, .int .i64 i, v1] w fun e w' => e = .returned (.bool true) ∧ Below w.heap.size w w' := by
  have H0 := hide h0
  have H1 := hide h1
  have HP : Hid (∀ U, Sl U v0 bs → Sl U v1 d → Calls Try.prog 9 #[v0, v1] U fun e w' => ∃ a c, e = .returned (.tuple #[.int .i64 (pnOf (putOf bs d) : Int), .slice a (pxOf (putOf bs d)).length c, .int .i64 (peOf (putOf bs d))]) ∧ Sl w' (.slice a (pxOf (putOf bs d)).length c) (pxOf (putOf bs d)) ∧ Below U.heap.size U w') := fun U a b => (put_any a b).mono fun e w' h => h.form
  have HRP : Hid (∀ U, Sl U v0 bs → Sl U v1 d → Calls Try.prog 19 #[v0, v1] U fun e w' => ∃ a c, e = .returned (.agg #[.int .i64 (pnOf (putOf bs d) : Int), .slice a (pxOf (putOf bs d)).length c, .int .i64 (peOf (putOf bs d))]) ∧ Sl w' (.slice a (pxOf (putOf bs d)).length c) (pxOf (putOf bs d)) ∧ Below U.heap.size U w') := fun U a b => (rput_any a b).mono fun e w' h => h.form
  have HSE : Hid (∀ U, Sl U v0 bs → Sl U v1 d → Calls Try.prog 20 #[v0, .int .i64 i, v1] U fun e w' => ∃ a c, e = .returned (.tuple #[.slice a (dxOf (setOf bs i d)).length c, .int .i64 (deOf (setOf bs i d))]) ∧ Sl w' (.slice a (dxOf (setOf bs i d)).length c) (dxOf (setOf bs i d)) ∧ Below U.heap.size U w') := fun U a b => (set_any a b i).mono fun e w' h => h.form
  have HRS : Hid (∀ U, Sl U v0 bs → Sl U v1 d → Calls Try.prog 21 #[v0, .int .i64 i, v1] U fun e w' => ∃ a c, e = .returned (.tuple #[.slice a (dxOf (setOf bs i d)).length c, .int .i64 (deOf (setOf bs i d))]) ∧ Sl w' (.slice a (dxOf (setOf bs i d)).length c) (dxOf (setOf bs i d)) ∧ Below U.heap.size U w') := fun U a b => (rset_any a b i).mono fun e w' h => h.form
  have HDE : Hid (∀ U, Sl U v0 bs → Calls Try.prog 16 #[v0, .int .i64 i] U fun e w' => ∃ a c, e = .returned (.tuple #[.slice a (dxOf (delOf bs i)).length c, .int .i64 (deOf (delOf bs i))]) ∧ Sl w' (.slice a (dxOf (delOf bs i)).length c) (dxOf (delOf bs i)) ∧ Below U.heap.size U w') := fun U a => (del_any a i).mono fun e w' h => h.form
  have HRD : Hid (∀ U, Sl U v0 bs → Calls Try.prog 22 #[v0, .int .i64 i] U fun e w' => ∃ a c, e = .returned (.tuple #[.slice a (dxOf (delOf bs i)).length c, .int .i64 (deOf (delOf bs i))]) ∧ Sl w' (.slice a (dxOf (delOf bs i)).length c) (dxOf (delOf bs i)) ∧ Below U.heap.size U w') := fun U a => (rdel_any a i).mono fun e w' h => h.form
  have HAS : Hid (∀ U, Sl U v0 bs → Calls Try.prog 24 #[v0, v0, .int .i64 i] U fun e w' => e = .returned (.bool true) ∧ Below U.heap.size U w') := fun U a => asks_any a a i
  have HN1 : Hid (∀ U, Sl U v0 bs → Calls Try.prog 10 #[v0, .int .i64 i] U fun e w' => ∃ a c, e = .returned (.slice a (setNextOf bs i).length c) ∧ Sl w' (.slice a (setNextOf bs i).length c) (setNextOf bs i) ∧ Below U.heap.size U w') := fun U a => (setNext_any a i hl).mono fun e w' ⟨v', he, hs, hb⟩ => by obtain ⟨x, c, e3⟩ := sl_form hs; subst e3; exact ⟨x, c, he, hs, hb⟩
  have HN2 : Hid (∀ U, Sl U v0 bs → Calls Try.prog 23 #[v0, .int .i64 i] U fun e w' => ∃ a c, e = .returned (.slice a (setNextOf bs i).length c) ∧ Sl w' (.slice a (setNextOf bs i).length c) (setNextOf bs i) ∧ Below U.heap.size U w') := fun U a => (rsetNext_any a i).mono fun e w' ⟨v', he, hs, hb⟩ => by obtain ⟨x, c, e3⟩ := sl_form hs; subst e3; exact ⟨x, c, he, hs, hb⟩
  generalize pnOf (putOf bs d) = n at *
  generalize pxOf (putOf bs d) = X at *
  generalize peOf (putOf bs d) = e1 at *
  generalize dxOf (setOf bs i d) = Y at *
  generalize deOf (setOf bs i d) = e2 at *
  generalize dxOf (delOf bs i) = Z at *
  generalize deOf (delOf bs i) = e3 at *
  generalize setNextOf bs i = V at *
  clear h0 h1
  go_enter Try.func5, Try.ntmps5
  go_wp2_with fail
  refine (HP.out _ H0.out H1.out).mono ?_
  rintro e W1 ⟨a1, c1, rfl, hs1, hb1⟩
  have B1 := hide hb1
  have P1 := hide hs1
  clear hs1 hb1 HP
  go_wp2_with fail
  refine (HRP.out _ (H0.out.belowW B1.out) (H1.out.belowW B1.out)).mono ?_
  rintro e W2 ⟨a2, c2, rfl, hs2, hb2⟩
  have hba := (Below.refl W2.heap.size W2).alloc (Nat.le_refl _) (.cells #[.int .i64 (n : Int), .slice a2 X.length c2, .int .i64 e1] 43)
  have hb2' := hb2.trans (hba.mono hb2.size)
  have k0 : (W2.alloc (.cells #[.int .i64 (n : Int), .slice a2 X.length c2, .int .i64 e1] 43)).cell? ⟨W2.heap.size, 0, none⟩ = some (.int .i64 (n : Int)) := by rw [cell_row (heap_alloc_new _ _)]; rfl
  have k1 : (W2.alloc (.cells #[.int .i64 (n : Int), .slice a2 X.length c2, .int .i64 e1] 43)).cell? ⟨W2.heap.size, 1, none⟩ = some (.slice a2 X.length c2) := by rw [cell_row (heap_alloc_new _ _)]; rfl
  have k2 : (W2.alloc (.cells #[.int .i64 (n : Int), .slice a2 X.length c2, .int .i64 e1] 43)).cell? ⟨W2.heap.size, 2, none⟩ = some (.int .i64 e1) := by rw [cell_row (heap_alloc_new _ _)]; rfl
  have B2 := hide (B1.out.trans (hb2'.mono B1.out.size))
  have P1b := hide (P1.out.belowW hb2')
  have P2b := hide (hs2.belowW hba)
  clear hs2 hb2 hba hb2' HRP P1 B1
  go_wp2_with fail
  generalize W2.alloc (.cells #[.int .i64 (n : Int), .slice a2 X.length c2, .int .i64 e1] 43) = W3 at *
  generalize W2.heap.size = bx at *
  refine (HSE.out _ (H0.out.belowW B2.out) (H1.out.belowW B2.out)).mono ?_
  rintro e W4 ⟨a3, c3, rfl, hs4, hb4⟩
  have B4 := hide (B2.out.trans (hb4.mono B2.out.size))
  have b34 := hide hb4
  have P4 := hide hs4
  clear hs4 hb4 HSE
  go_wp2_with fail
  refine (HRS.out _ (H0.out.belowW B4.out) (H1.out.belowW B4.out)).mono ?_
  rintro e W5 ⟨a4, c4, rfl, hs5, hb5⟩
  have B5 := hide (B4.out.trans (hb5.mono B4.out.size))
  have b35 := hide (b34.out.trans (hb5.mono b34.out.size))
  have P4b := hide (P4.out.belowW hb5)
  have P5 := hide hs5
  clear hs5 hb5 HRS
  go_wp2_with fail
  refine (HDE.out _ (H0.out.belowW B5.out)).mono ?_
  rintro e W6 ⟨a5, c5, rfl, hs6, hb6⟩
  have B6 := hide (B5.out.trans (hb6.mono B5.out.size))
  have b36 := hide (b35.out.trans (hb6.mono b35.out.size))
  have P4c := hide (P4b.out.belowW hb6)
  have P5b := hide (P5.out.belowW hb6)
  have P6 := hide hs6
  clear hs6 hb6 HDE
  go_wp2_with fail
  refine (HRD.out _ (H0.out.belowW B6.out)).mono ?_
  rintro e W7 ⟨a6, c6, rfl, hs7, hb7⟩
  have B7 := hide (B6.out.trans (hb7.mono B6.out.size))
  have b37 := b36.out.trans (hb7.mono b36.out.size)
  have hi0 : RdS v0 bs X Y Z (.slice a1 X.length c1) (.slice a2 X.length c2) (.slice a3 Y.length c3) (.slice a4 Y.length c4) (.slice a5 Z.length c5) (.slice a6 Z.length c6) bx n e1 W7 := ⟨H0.out.belowW B7.out, P1b.out.belowW b37, P2b.out.belowW b37, P4c.out.belowW hb7, P5b.out.belowW hb7, P6.out.belowW hb7, hs7, (b37.cell (World.block_lt_of_cell? _ _ k0)).trans k0, (b37.cell (World.block_lt_of_cell? _ _ k1)).trans k1, (b37.cell (World.block_lt_of_cell? _ _ k2)).trans k2⟩
  have HI0 := hide hi0
  clear hi0 hs7 hb7 HRD B2 B4 B5 B6 b34 b35 b36 b37 P1b P2b P4 P4b P4c P5 P5b P6 k0 k1 k2
  go_wp2_with fail
  refine wp_region_held_drew (S := RdS v0 bs X Y Z (.slice a1 X.length c1) (.slice a2 X.length c2) (.slice a3 Y.length c3) (.slice a4 Y.length c4) (.slice a5 Z.length c5) (.slice a6 Z.length c6) bx n e1) (by kernel_rfl) (HI0.out.step (below_drewN _ _ 1)) (fun hH => ?_)
  refine take_to 0 55 (v0) rfl (by kernel_rfl) (by kernel_rfl) (by kernel_rfl) (fun _ _ _ h => h) rfl (by rfl) (fun w hw => by rfl) hH ?_
  simp only [Act.put, List.setIfInBounds_toArray, List.set_cons_zero, List.set_cons_succ]
  refine take_to 1 56 (v0) rfl (by kernel_rfl) (by kernel_rfl) (by kernel_rfl) (fun _ _ _ h => h) rfl (by rfl) (fun w hw => by rfl) hH ?_
  simp only [Act.put, List.setIfInBounds_toArray, List.set_cons_zero, List.set_cons_succ]
  refine take_to 2 57 (.int .i64 i) rfl (by kernel_rfl) (by kernel_rfl) (by kernel_rfl) (fun _ _ _ h => h) rfl (by rfl) (fun w hw => by rfl) hH ?_
  simp only [Act.put, List.setIfInBounds_toArray, List.set_cons_zero, List.set_cons_succ]
  refine step_call3_to 3 58 24 rfl (by kernel_rfl) rfl (by rfl) (.tmp 55) (.tmp 56) (.tmp 57) _ rfl _ _ _ rfl rfl rfl Try.enters24 (HAS.out _ hH.page) ?_
  rintro e Z1 ⟨rfl, hz1⟩
  have s1 := hH.step hz1
  refine ⟨_, rfl, s1, ?_⟩
  simp only [Act.put, List.setIfInBounds_toArray, List.set_cons_zero, List.set_cons_succ]
  refine take_to 4 59 (.bool true) rfl (by kernel_rfl) (by kernel_rfl) (by kernel_rfl) (fun _ _ _ h => h) rfl (by rfl) (fun w hw => by rfl) s1 ?_
  simp only [Act.put, List.setIfInBounds_toArray, List.set_cons_zero, List.set_cons_succ]
  refine take_to 5 60 (.int .i64 (n : Int)) rfl (by kernel_rfl) (by kernel_rfl) (by kernel_rfl) (fun _ _ _ h => h) rfl (by rfl) (fun w hw => by rfl) s1 ?_
  simp only [Act.put, List.setIfInBounds_toArray, List.set_cons_zero, List.set_cons_succ]
  refine take_to 6 61 (.pointer (some ⟨bx, 0, none⟩)) rfl (by kernel_rfl) (by kernel_rfl) (by kernel_rfl) (fun _ _ _ h => h) rfl (by rfl) (fun w hw => by rfl) s1 ?_
  simp only [Act.put, List.setIfInBounds_toArray, List.set_cons_zero, List.set_cons_succ]
  refine take_to 7 62 (.int .i64 (n : Int)) rfl (by kernel_rfl) (by kernel_rfl) (by kernel_rfl) (fun _ _ _ h => h) rfl (by rfl) (fun w' hw => op_load _ _ 3 (.tmp 61) rfl (.pointer (some ⟨bx, 0, none⟩)) _ rfl (run_loadAny w' bx 0 3 _ Try.isAgg3 hw.c0)) s1 ?_
  simp only [Act.put, List.setIfInBounds_toArray, List.set_cons_zero, List.set_cons_succ]
  refine take_to 8 63 (.bool true) rfl (by kernel_rfl) (by kernel_rfl) (by kernel_rfl) (fun _ _ _ h => h) rfl (by rfl) (fun w hw => op_eql3 _ _ (.tmp 60) (.tmp 62) 3 rfl _ _ rfl rfl true (by simp)) s1 ?_
  simp only [Act.put, List.setIfInBounds_toArray, List.set_cons_zero, List.set_cons_succ]
  refine take_to 9 64 (.bool true) rfl (by kernel_rfl) (by kernel_rfl) (by kernel_rfl) (fun _ _ _ h => h) rfl (by rfl) (fun w hw => by rfl) s1 ?_
  simp only [Act.put, List.setIfInBounds_toArray, List.set_cons_zero, List.set_cons_succ]
  refine take_to 10 65 (.bool true) rfl (by kernel_rfl) (by kernel_rfl) (by kernel_rfl) (fun _ _ _ h => h) rfl (by rfl) (fun w hw => by rfl) s1 ?_
  simp only [Act.put, List.setIfInBounds_toArray, List.set_cons_zero, List.set_cons_succ]
  refine take_to 11 66 (.slice a1 X.length c1) rfl (by kernel_rfl) (by kernel_rfl) (by kernel_rfl) (fun _ _ _ h => h) rfl (by rfl) (fun w hw => by rfl) s1 ?_
  simp only [Act.put, List.setIfInBounds_toArray, List.set_cons_zero, List.set_cons_succ]
  refine take_to 12 67 (.string (strOf X)) rfl (by kernel_rfl) (by kernel_rfl) (by kernel_rfl) (fun _ _ _ h => h) rfl (by rfl) (fun w hw => op_conv _ _ 23 9 (.tmp 66) rfl _ _ rfl (run_str hw.q1)) s1 ?_
  simp only [Act.put, List.setIfInBounds_toArray, List.set_cons_zero, List.set_cons_succ]
  refine take_to 13 68 (.pointer (some ⟨bx, 1, none⟩)) rfl (by kernel_rfl) (by kernel_rfl) (by kernel_rfl) (fun _ _ _ h => h) rfl (by rfl) (fun w hw => by rfl) s1 ?_
  simp only [Act.put, List.setIfInBounds_toArray, List.set_cons_zero, List.set_cons_succ]
  refine take_to 14 69 (.slice a2 X.length c2) rfl (by kernel_rfl) (by kernel_rfl) (by kernel_rfl) (fun _ _ _ h => h) rfl (by rfl) (fun w' hw => op_load _ _ 23 (.tmp 68) rfl (.pointer (some ⟨bx, 1, none⟩)) _ rfl (run_loadAny w' bx 1 23 _ Try.isAgg23 hw.c1)) s1 ?_
  simp only [Act.put, List.setIfInBounds_toArray, List.set_cons_zero, List.set_cons_succ]
  refine take_to 15 70 (.string (strOf X)) rfl (by kernel_rfl) (by kernel_rfl) (by kernel_rfl) (fun _ _ _ h => h) rfl (by rfl) (fun w hw => op_conv _ _ 23 9 (.tmp 69) rfl _ _ rfl (run_str hw.q2)) s1 ?_
  simp only [Act.put, List.setIfInBounds_toArray, List.set_cons_zero, List.set_cons_succ]
  refine take_to 16 71 (.bool true) rfl (by kernel_rfl) (by kernel_rfl) (by kernel_rfl) (fun _ _ _ h => h) rfl (by rfl) (fun w hw => op_eql9 _ _ (.tmp 67) (.tmp 70) 9 rfl _ rfl rfl) s1 ?_
  simp only [Act.put, List.setIfInBounds_toArray, List.set_cons_zero, List.set_cons_succ]
  refine take_to 17 72 (.bool true) rfl (by kernel_rfl) (by kernel_rfl) (by kernel_rfl) (fun _ _ _ h => h) rfl (by rfl) (fun w hw => by rfl) s1 ?_
  simp only [Act.put, List.setIfInBounds_toArray, List.set_cons_zero, List.set_cons_succ]
  refine take_to 18 73 (.bool true) rfl (by kernel_rfl) (by kernel_rfl) (by kernel_rfl) (fun _ _ _ h => h) rfl (by rfl) (fun w hw => by rfl) s1 ?_
  simp only [Act.put, List.setIfInBounds_toArray, List.set_cons_zero, List.set_cons_succ]
  refine take_to 19 74 (.int .i64 e1) rfl (by kernel_rfl) (by kernel_rfl) (by kernel_rfl) (fun _ _ _ h => h) rfl (by rfl) (fun w hw => by rfl) s1 ?_
  simp only [Act.put, List.setIfInBounds_toArray, List.set_cons_zero, List.set_cons_succ]
  refine take_to 20 75 (.pointer (some ⟨bx, 2, none⟩)) rfl (by kernel_rfl) (by kernel_rfl) (by kernel_rfl) (fun _ _ _ h => h) rfl (by rfl) (fun w hw => by rfl) s1 ?_
  simp only [Act.put, List.setIfInBounds_toArray, List.set_cons_zero, List.set_cons_succ]
  refine take_to 21 76 (.int .i64 e1) rfl (by kernel_rfl) (by kernel_rfl) (by kernel_rfl) (fun _ _ _ h => h) rfl (by rfl) (fun w' hw => op_load _ _ 3 (.tmp 75) rfl (.pointer (some ⟨bx, 2, none⟩)) _ rfl (run_loadAny w' bx 2 3 _ Try.isAgg3 hw.c2)) s1 ?_
  simp only [Act.put, List.setIfInBounds_toArray, List.set_cons_zero, List.set_cons_succ]
  refine take_to 22 77 (.bool true) rfl (by kernel_rfl) (by kernel_rfl) (by kernel_rfl) (fun _ _ _ h => h) rfl (by rfl) (fun w hw => op_eql3 _ _ (.tmp 74) (.tmp 76) 3 rfl _ _ rfl rfl true (by simp)) s1 ?_
  simp only [Act.put, List.setIfInBounds_toArray, List.set_cons_zero, List.set_cons_succ]
  refine take_to 23 78 (.bool true) rfl (by kernel_rfl) (by kernel_rfl) (by kernel_rfl) (fun _ _ _ h => h) rfl (by rfl) (fun w hw => by rfl) s1 ?_
  simp only [Act.put, List.setIfInBounds_toArray, List.set_cons_zero, List.set_cons_succ]
  refine take_to 24 79 (.bool true) rfl (by kernel_rfl) (by kernel_rfl) (by kernel_rfl) (fun _ _ _ h => h) rfl (by rfl) (fun w hw => by rfl) s1 ?_
  simp only [Act.put, List.setIfInBounds_toArray, List.set_cons_zero, List.set_cons_succ]
  refine take_to 25 80 (.slice a3 Y.length c3) rfl (by kernel_rfl) (by kernel_rfl) (by kernel_rfl) (fun _ _ _ h => h) rfl (by rfl) (fun w hw => by rfl) s1 ?_
  simp only [Act.put, List.setIfInBounds_toArray, List.set_cons_zero, List.set_cons_succ]
  refine take_to 26 81 (.string (strOf Y)) rfl (by kernel_rfl) (by kernel_rfl) (by kernel_rfl) (fun _ _ _ h => h) rfl (by rfl) (fun w hw => op_conv _ _ 23 9 (.tmp 80) rfl _ _ rfl (run_str hw.t1)) s1 ?_
  simp only [Act.put, List.setIfInBounds_toArray, List.set_cons_zero, List.set_cons_succ]
  refine take_to 27 82 (.slice a4 Y.length c4) rfl (by kernel_rfl) (by kernel_rfl) (by kernel_rfl) (fun _ _ _ h => h) rfl (by rfl) (fun w hw => by rfl) s1 ?_
  simp only [Act.put, List.setIfInBounds_toArray, List.set_cons_zero, List.set_cons_succ]
  refine take_to 28 83 (.string (strOf Y)) rfl (by kernel_rfl) (by kernel_rfl) (by kernel_rfl) (fun _ _ _ h => h) rfl (by rfl) (fun w hw => op_conv _ _ 23 9 (.tmp 82) rfl _ _ rfl (run_str hw.t2)) s1 ?_
  simp only [Act.put, List.setIfInBounds_toArray, List.set_cons_zero, List.set_cons_succ]
  refine take_to 29 84 (.bool true) rfl (by kernel_rfl) (by kernel_rfl) (by kernel_rfl) (fun _ _ _ h => h) rfl (by rfl) (fun w hw => op_eql9 _ _ (.tmp 81) (.tmp 83) 9 rfl _ rfl rfl) s1 ?_
  simp only [Act.put, List.setIfInBounds_toArray, List.set_cons_zero, List.set_cons_succ]
  refine take_to 30 85 (.bool true) rfl (by kernel_rfl) (by kernel_rfl) (by kernel_rfl) (fun _ _ _ h => h) rfl (by rfl) (fun w hw => by rfl) s1 ?_
  simp only [Act.put, List.setIfInBounds_toArray, List.set_cons_zero, List.set_cons_succ]
  refine take_to 31 86 (.bool true) rfl (by kernel_rfl) (by kernel_rfl) (by kernel_rfl) (fun _ _ _ h => h) rfl (by rfl) (fun w hw => by rfl) s1 ?_
  simp only [Act.put, List.setIfInBounds_toArray, List.set_cons_zero, List.set_cons_succ]
  refine take_to 32 87 (.int .i64 e2) rfl (by kernel_rfl) (by kernel_rfl) (by kernel_rfl) (fun _ _ _ h => h) rfl (by rfl) (fun w hw => by rfl) s1 ?_
  simp only [Act.put, List.setIfInBounds_toArray, List.set_cons_zero, List.set_cons_succ]
  refine take_to 33 88 (.int .i64 e2) rfl (by kernel_rfl) (by kernel_rfl) (by kernel_rfl) (fun _ _ _ h => h) rfl (by rfl) (fun w hw => by rfl) s1 ?_
  simp only [Act.put, List.setIfInBounds_toArray, List.set_cons_zero, List.set_cons_succ]
  refine take_to 34 89 (.bool true) rfl (by kernel_rfl) (by kernel_rfl) (by kernel_rfl) (fun _ _ _ h => h) rfl (by rfl) (fun w hw => op_eql3 _ _ (.tmp 87) (.tmp 88) 3 rfl _ _ rfl rfl true (by simp)) s1 ?_
  simp only [Act.put, List.setIfInBounds_toArray, List.set_cons_zero, List.set_cons_succ]
  refine take_to 35 90 (.bool true) rfl (by kernel_rfl) (by kernel_rfl) (by kernel_rfl) (fun _ _ _ h => h) rfl (by rfl) (fun w hw => by rfl) s1 ?_
  simp only [Act.put, List.setIfInBounds_toArray, List.set_cons_zero, List.set_cons_succ]
  refine take_to 36 91 (.bool true) rfl (by kernel_rfl) (by kernel_rfl) (by kernel_rfl) (fun _ _ _ h => h) rfl (by rfl) (fun w hw => by rfl) s1 ?_
  simp only [Act.put, List.setIfInBounds_toArray, List.set_cons_zero, List.set_cons_succ]
  refine take_to 37 92 (.slice a5 Z.length c5) rfl (by kernel_rfl) (by kernel_rfl) (by kernel_rfl) (fun _ _ _ h => h) rfl (by rfl) (fun w hw => by rfl) s1 ?_
  simp only [Act.put, List.setIfInBounds_toArray, List.set_cons_zero, List.set_cons_succ]
  refine take_to 38 93 (.string (strOf Z)) rfl (by kernel_rfl) (by kernel_rfl) (by kernel_rfl) (fun _ _ _ h => h) rfl (by rfl) (fun w hw => op_conv _ _ 23 9 (.tmp 92) rfl _ _ rfl (run_str hw.u1)) s1 ?_
  simp only [Act.put, List.setIfInBounds_toArray, List.set_cons_zero, List.set_cons_succ]
  refine take_to 39 94 (.slice a6 Z.length c6) rfl (by kernel_rfl) (by kernel_rfl) (by kernel_rfl) (fun _ _ _ h => h) rfl (by rfl) (fun w hw => by rfl) s1 ?_
  simp only [Act.put, List.setIfInBounds_toArray, List.set_cons_zero, List.set_cons_succ]
  refine take_to 40 95 (.string (strOf Z)) rfl (by kernel_rfl) (by kernel_rfl) (by kernel_rfl) (fun _ _ _ h => h) rfl (by rfl) (fun w hw => op_conv _ _ 23 9 (.tmp 94) rfl _ _ rfl (run_str hw.u2)) s1 ?_
  simp only [Act.put, List.setIfInBounds_toArray, List.set_cons_zero, List.set_cons_succ]
  refine take_to 41 96 (.bool true) rfl (by kernel_rfl) (by kernel_rfl) (by kernel_rfl) (fun _ _ _ h => h) rfl (by rfl) (fun w hw => op_eql9 _ _ (.tmp 93) (.tmp 95) 9 rfl _ rfl rfl) s1 ?_
  simp only [Act.put, List.setIfInBounds_toArray, List.set_cons_zero, List.set_cons_succ]
  refine take_to 42 97 (.bool true) rfl (by kernel_rfl) (by kernel_rfl) (by kernel_rfl) (fun _ _ _ h => h) rfl (by rfl) (fun w hw => by rfl) s1 ?_
  simp only [Act.put, List.setIfInBounds_toArray, List.set_cons_zero, List.set_cons_succ]
  refine take_to 43 98 (.bool true) rfl (by kernel_rfl) (by kernel_rfl) (by kernel_rfl) (fun _ _ _ h => h) rfl (by rfl) (fun w hw => by rfl) s1 ?_
  simp only [Act.put, List.setIfInBounds_toArray, List.set_cons_zero, List.set_cons_succ]
  refine take_to 44 99 (.int .i64 e3) rfl (by kernel_rfl) (by kernel_rfl) (by kernel_rfl) (fun _ _ _ h => h) rfl (by rfl) (fun w hw => by rfl) s1 ?_
  simp only [Act.put, List.setIfInBounds_toArray, List.set_cons_zero, List.set_cons_succ]
  refine take_to 45 100 (.int .i64 e3) rfl (by kernel_rfl) (by kernel_rfl) (by kernel_rfl) (fun _ _ _ h => h) rfl (by rfl) (fun w hw => by rfl) s1 ?_
  simp only [Act.put, List.setIfInBounds_toArray, List.set_cons_zero, List.set_cons_succ]
  refine take_to 46 101 (.bool true) rfl (by kernel_rfl) (by kernel_rfl) (by kernel_rfl) (fun _ _ _ h => h) rfl (by rfl) (fun w hw => op_eql3 _ _ (.tmp 99) (.tmp 100) 3 rfl _ _ rfl rfl true (by simp)) s1 ?_
  simp only [Act.put, List.setIfInBounds_toArray, List.set_cons_zero, List.set_cons_succ]
  refine take_to 47 102 (.bool true) rfl (by kernel_rfl) (by kernel_rfl) (by kernel_rfl) (fun _ _ _ h => h) rfl (by rfl) (fun w hw => by rfl) s1 ?_
  simp only [Act.put, List.setIfInBounds_toArray, List.set_cons_zero, List.set_cons_succ]
  refine take_to 48 103 (.bool true) rfl (by kernel_rfl) (by kernel_rfl) (by kernel_rfl) (fun _ _ _ h => h) rfl (by rfl) (fun w hw => by rfl) s1 ?_
  simp only [Act.put, List.setIfInBounds_toArray, List.set_cons_zero, List.set_cons_succ]
  refine take_to 49 104 (v0) rfl (by kernel_rfl) (by kernel_rfl) (by kernel_rfl) (fun _ _ _ h => h) rfl (by rfl) (fun w hw => by rfl) s1 ?_
  simp only [Act.put, List.setIfInBounds_toArray, List.set_cons_zero, List.set_cons_succ]
  refine take_to 50 105 (.int .i64 i) rfl (by kernel_rfl) (by kernel_rfl) (by kernel_rfl) (fun _ _ _ h => h) rfl (by rfl) (fun w hw => by rfl) s1 ?_
  simp only [Act.put, List.setIfInBounds_toArray, List.set_cons_zero, List.set_cons_succ]
  refine take_to 53 108 (v0) rfl (by kernel_rfl) (by kernel_rfl) (by kernel_rfl) (fun _ _ _ h => h) rfl (by rfl) (fun w hw => by rfl) s1 ?_
  simp only [Act.put, List.setIfInBounds_toArray, List.set_cons_zero, List.set_cons_succ]
  refine take_to 54 109 (.int .i64 i) rfl (by kernel_rfl) (by kernel_rfl) (by kernel_rfl) (fun _ _ _ h => h) rfl (by rfl) (fun w hw => by rfl) s1 ?_
  simp only [Act.put, List.setIfInBounds_toArray, List.set_cons_zero, List.set_cons_succ]
  refine step_call2_to 51 106 10 rfl (by kernel_rfl) rfl (by rfl) (.tmp 104) (.tmp 105) _ rfl _ _ rfl rfl Try.enters10 (HN1.out _ s1.page) ?_
  rintro e Z2 ⟨a7, c7, rfl, hs2, hz2⟩
  have s2 := s1.step hz2
  refine ⟨_, rfl, s2, ?_⟩
  simp only [Act.put, List.setIfInBounds_toArray, List.set_cons_zero, List.set_cons_succ]
  refine wpAnyH_strong (S' := fun w' => RdS v0 bs X Y Z (.slice a1 X.length c1) (.slice a2 X.length c2) (.slice a3 Y.length c3) (.slice a4 Y.length c4) (.slice a5 Z.length c5) (.slice a6 Z.length c6) bx n e1 w' ∧ Sl w' (.slice a7 V.length c7) V) (fun _ h => h.1) _ _ _ _ ?_
  have s2' := And.intro s2 hs2
  refine take_to 52 107 (.string (strOf V)) rfl (by kernel_rfl) (by kernel_rfl) (by kernel_rfl) (fun _ _ _ h => h) rfl (by rfl) (fun w hw => op_conv _ _ 23 9 (.tmp 106) rfl _ _ rfl (run_str hw.2)) s2' ?_
  simp only [Act.put, List.setIfInBounds_toArray, List.set_cons_zero, List.set_cons_succ]
  refine step_call2_to 55 110 23 rfl (by kernel_rfl) rfl (by rfl) (.tmp 108) (.tmp 109) _ rfl _ _ rfl rfl Try.enters23 (HN2.out _ s2'.1.page) ?_
  rintro e Z3 ⟨a8, c8, rfl, hs3, hz3⟩
  have s3 := And.intro (s2'.1.step hz3) (s2'.2.belowW hz3)
  refine ⟨_, rfl, s3, ?_⟩
  simp only [Act.put, List.setIfInBounds_toArray, List.set_cons_zero, List.set_cons_succ]
  refine step_to 56 111 (.string (strOf V)) Z3 rfl (by kernel_rfl) rfl (by rfl) (op_conv _ _ 23 9 (.tmp 110) rfl _ _ rfl (run_str hs3)) s3 ?_
  simp only [Act.put, List.setIfInBounds_toArray, List.set_cons_zero, List.set_cons_succ]
  refine step_to 57 112 (.bool true) Z3 rfl (by kernel_rfl) rfl (by rfl) (op_eql9 _ _ (.tmp 107) (.tmp 111) 9 rfl _ rfl rfl) s3 ?_
  simp only [Act.put, List.setIfInBounds_toArray, List.set_cons_zero, List.set_cons_succ]
  refine step_to 58 113 (.bool true) Z3 rfl (by kernel_rfl) rfl (by rfl) (rfl) s3 ?_
  simp only [Act.put, List.setIfInBounds_toArray, List.set_cons_zero, List.set_cons_succ]
  refine step_to 59 114 (.bool true) Z3 rfl (by kernel_rfl) rfl (by rfl) (rfl) s3 ?_
  simp only [Act.put, List.setIfInBounds_toArray, List.set_cons_zero, List.set_cons_succ]
  refine step_call0_to 60 115 17 rfl (by kernel_rfl) rfl (by rfl) _ rfl Try.enters17 (awake_any Z3) ?_
  rintro e Z4 ⟨rfl, hz4⟩
  have s4 := And.intro (s3.1.step hz4) (s3.2.belowW hz4)
  refine ⟨_, rfl, s4, ?_⟩
  simp only [Act.put, List.setIfInBounds_toArray, List.set_cons_zero, List.set_cons_succ]
  refine step_to 61 116 (.bool true) Z4 rfl (by kernel_rfl) rfl (by rfl) (rfl) s4 ?_
  simp only [Act.put, List.setIfInBounds_toArray, List.set_cons_zero, List.set_cons_succ]
  refine step_to 62 6 (.bool true) Z4 rfl (by kernel_rfl) rfl (by rfl) (rfl) s4 ?_
  simp only [Act.put, List.setIfInBounds_toArray, List.set_cons_zero, List.set_cons_succ]
  refine wpAnyH_done (by kernel_rfl) ?_ _
  go_wp2
  go_ret
  have t0 := B7.out.size
  have t1 : W7.heap.size ≤ Z1.heap.size := hz1.size
  have t2 := hz2.size
  have t3 := hz3.size
  exact ⟨rfl, ((((B7.out.trans (below_drewN _ _ 1)).trans (hz1.mono (show _ ≤ W7.heap.size by omega))).trans (hz2.mono (by omega))).trans (hz3.mono (by omega))).trans (hz4.mono (by omega))⟩
end Go.Proofs.Ytdddeneppciiiaa
