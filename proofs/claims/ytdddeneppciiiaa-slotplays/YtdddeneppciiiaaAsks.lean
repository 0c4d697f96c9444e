/- All questions about two pages with the same bytes. -/
import Derived.Test.YtdddeneppciiiaaSetP
namespace Go.Proofs.Ytdddeneppciiiaa
open Go.RowKit
set_option linter.unusedVariables false
set_option linter.unusedSimpArgs false

theorem get_form {w : World} {v : Value} {bs : List UInt8} (h : Sl w v bs) (i : Int) : Calls Try.prog 15 #[v, .int .i64 i] w fun e w' => ∃ ax cx, e = .returned (.tuple #[.slice ax ((getOf bs i).getD []).length cx, .bool (getOf bs i).isSome]) ∧ Sl w' (.slice ax ((getOf bs i).getD []).length cx) ((getOf bs i).getD []) ∧ Below w.heap.size w w' := by
  refine (get_any h i).mono ?_
  rintro e w' ⟨hb, h2⟩
  cases hg : getOf bs i with
  | none =>
    rw [hg] at h2
    exact ⟨none, 0, h2, Sl.nil w', hb⟩
  | some d =>
    rw [hg] at h2
    obtain ⟨v', rfl, hs⟩ := h2
    obtain ⟨ao, c, e3⟩ := sl_form hs
    subst e3
    exact ⟨ao, c, rfl, hs, hb⟩
theorem slots_nats {w : World} {v : Value} {bs : List UInt8} (h : Sl w v bs) : Calls Try.prog 14 #[v] w fun e w' => ∃ ao c, e = .returned (.slice ao (pgOr bs).slots.length c) ∧ NatsAt w' ao (pgOr bs).slots ∧ Below w.heap.size w w' := by
  refine (slots_any h).mono ?_
  rintro e w' ⟨u, rfl, ho, hb⟩
  obtain ⟨ao, c, rfl⟩ := owns_len ho
  exact ⟨ao, c, rfl, nats_of ho, hb⟩
theorem nextOf_or (bs : List UInt8) : nextOf bs = (pgOr bs).next := by unfold nextOf pgOr; cases dec bs <;> rfl
theorem op_eql4 (ρ : Operand → Value) (o : Oper) (x y : Operand) (tt : TypeId) (ho : o.op = .binOp .eql 4 x y tt) (b : Bool) (hx : ρ x = .bool b) (hy : ρ y = .bool b) {w : World} : (execOp ρ o).run Try.prog w = .ok (.value (.bool true)) w := by
  have hu := Try.underlying4
  unfold execOp
  simp only [ho, hx, hy]
  simp [go_sem, hu]
theorem slots_short (bs : List UInt8) : (pgOr bs).slots.length ≤ 1000 := by
  have h1 := slotsOf_len (pgOr bs).sl 0
  have h2 : (pgOr bs).sl.length ≤ 1000 := by
    unfold pgOr
    cases hd : dec bs with
    | none => show 0 ≤ 1000; omega
    | some g =>
      have := (enc_dec hd).1.size
      simp only [Pg.size, tsize] at this
      show g.sl.length ≤ 1000
      omega
  unfold Pg.slots
  omega
set_option maxHeartbeats 2000000 in
set_option maxRecDepth 100000 in
theorem asks_any {w : World} {v1 v2 : Value} {bs : List UInt8} (h1 : Sl w v1 bs) (h2 : Sl w v2 bs) (i : Int) : Calls Try.prog 24 #[v1, v2, .int .i64 i] w fun e w' => e = .returned (.bool true) ∧ Below w.heap.size w w' := by
  have HG := hide (get_form h1 i)
  have H1 := hide h1
  have H2 := hide h2
  have hsh := slots_short bs
  clear h1 h2
  go_enter Try.func24, Try.ntmps24
  go_wp2_with fail
  refine HG.out.mono ?_
  rintro e W1 ⟨ax, cx, rfl, hs1, hb1⟩
  have HB1 := hide hb1
  have HS1 := hide hs1
  have HG2 := hide (rget_any (H2.out.belowW hb1) i)
  clear HG hs1 hb1
  generalize (getOf bs i).isSome = okb at *
  generalize hgd : (getOf bs i).getD [] = d at *
  go_wp2_with fail
  refine HG2.out.mono ?_
  rintro e W2 ⟨rfl, hb2⟩
  have HB2 := hide (HB1.out.trans (hb2.mono HB1.out.size))
  have HS2 := hide (HS1.out.belowW hb2)
  have HRD := hide (rread_or (H2.out.belowW HB2.out))
  clear HG2 hb2 HS1 HB1
  have HCK : Hid (∀ W, Sl W v1 bs → Calls Try.prog 12 #[v1] W fun e w' => e = .returned (.bool (dec bs).isSome) ∧ Below W.heap.size W w') := fun W h => check_any h
  have HNX : Hid (∀ W, Sl W v1 bs → Calls Try.prog 11 #[v1] W fun e w' => e = .returned (.int .i64 ((pgOr bs).next : Nat)) ∧ Below W.heap.size W w') := fun W h => by have := next_any h; rw [nextOf_or] at this; exact this
  generalize (dec bs).isSome = okd at *
  generalize hnx : (pgOr bs).next = nx at *
  generalize (pgOr bs).sl.length = LS at *
  go_wp2_with (go_at_call 34; refine HRD.out.mono ?_; rintro e W3 ⟨ao, c, rfl, ho⟩)
  have hb3 := ho.1.alloc ho.1.size (.cells #[.int .i64 (nx : Int), .slice ao LS c] 67)
  have hc3 : (W3.alloc (.cells #[.int .i64 (nx : Int), .slice ao LS c] 67)).cell? ⟨W3.heap.size, 0, none⟩ = some (.int .i64 (nx : Int)) := by rw [cell_row (heap_alloc_new _ _)]; rfl
  have HB3 := hide (HB2.out.trans (hb3.mono HB2.out.size))
  have HS3 := hide (HS2.out.belowW hb3)
  clear ho hb3 HRD HS2 HB2
  generalize W3.alloc (.cells #[.int .i64 (nx : Int), .slice ao LS c] 67) = W4 at *
  generalize W3.heap.size = bx at *
  have hi0 : ((Sl W4 v1 bs ∧ Sl W4 v2 bs) ∧ Sl W4 (.slice ax d.length cx) d) ∧ W4.cell? ⟨bx, 0, none⟩ = some (.int .i64 (nx : Int)) := ⟨⟨⟨H1.out.belowW HB3.out, H2.out.belowW HB3.out⟩, HS3.out⟩, hc3⟩
  have hstep : ∀ {A B : World}, ((Sl A v1 bs ∧ Sl A v2 bs) ∧ Sl A (.slice ax d.length cx) d) ∧ A.cell? ⟨bx, 0, none⟩ = some (.int .i64 (nx : Int)) → Below A.heap.size A B → ((Sl B v1 bs ∧ Sl B v2 bs) ∧ Sl B (.slice ax d.length cx) d) ∧ B.cell? ⟨bx, 0, none⟩ = some (.int .i64 (nx : Int)) := fun h hb => ⟨⟨⟨h.1.1.1.belowW hb, h.1.1.2.belowW hb⟩, h.1.2.belowW hb⟩, (hb.cell (World.block_lt_of_cell? _ _ h.2)).trans h.2⟩
  refine wp_region_held_drew (S := fun w' => ((Sl w' v1 bs ∧ Sl w' v2 bs) ∧ Sl w' (.slice ax d.length cx) d) ∧ w'.cell? ⟨bx, 0, none⟩ = some (.int .i64 (nx : Int))) (by kernel_rfl) (hstep hi0 (below_drewN _ _ 1)) (fun hH => ?_)
  refine take_to 0 30 (.slice ax d.length cx) rfl (by kernel_rfl) (by kernel_rfl) (by kernel_rfl) (fun _ _ _ h => h) rfl (by rfl) (fun w hw => by rfl) hH ?_
  simp only [Act.put, List.setIfInBounds_toArray, List.set_cons_zero, List.set_cons_succ]
  refine take_to 1 31 (.string (strOf d)) rfl (by kernel_rfl) (by kernel_rfl) (by kernel_rfl) (fun _ _ _ h => h) rfl (by rfl) (fun w hw => op_conv _ _ 23 9 (.tmp 30) rfl _ _ rfl (run_str hw.1.2)) hH ?_
  simp only [Act.put, List.setIfInBounds_toArray, List.set_cons_zero, List.set_cons_succ]
  refine take_to 2 32 (.string (strOf d)) rfl (by kernel_rfl) (by kernel_rfl) (by kernel_rfl) (fun _ _ _ h => h) rfl (by rfl) (fun w hw => by rfl) hH ?_
  simp only [Act.put, List.setIfInBounds_toArray, List.set_cons_zero, List.set_cons_succ]
  refine take_to 3 33 (.bool true) rfl (by kernel_rfl) (by kernel_rfl) (by kernel_rfl) (fun _ _ _ h => h) rfl (by rfl) (fun w hw => op_eql9 _ _ (.tmp 31) (.tmp 32) 9 rfl _ rfl rfl) hH ?_
  simp only [Act.put, List.setIfInBounds_toArray, List.set_cons_zero, List.set_cons_succ]
  refine take_to 4 34 (.bool true) rfl (by kernel_rfl) (by kernel_rfl) (by kernel_rfl) (fun _ _ _ h => h) rfl (by rfl) (fun w hw => by rfl) hH ?_
  simp only [Act.put, List.setIfInBounds_toArray, List.set_cons_zero, List.set_cons_succ]
  refine take_to 5 35 (.bool okb) rfl (by kernel_rfl) (by kernel_rfl) (by kernel_rfl) (fun _ _ _ h => h) rfl (by rfl) (fun w hw => by rfl) hH ?_
  simp only [Act.put, List.setIfInBounds_toArray, List.set_cons_zero, List.set_cons_succ]
  refine take_to 6 36 (.bool okb) rfl (by kernel_rfl) (by kernel_rfl) (by kernel_rfl) (fun _ _ _ h => h) rfl (by rfl) (fun w hw => by rfl) hH ?_
  simp only [Act.put, List.setIfInBounds_toArray, List.set_cons_zero, List.set_cons_succ]
  refine take_to 7 37 (.bool true) rfl (by kernel_rfl) (by kernel_rfl) (by kernel_rfl) (fun _ _ _ h => h) rfl (by rfl) (fun w hw => op_eql4 _ _ (.tmp 35) (.tmp 36) 4 rfl _ rfl rfl) hH ?_
  simp only [Act.put, List.setIfInBounds_toArray, List.set_cons_zero, List.set_cons_succ]
  refine take_to 8 38 (.bool true) rfl (by kernel_rfl) (by kernel_rfl) (by kernel_rfl) (fun _ _ _ h => h) rfl (by rfl) (fun w hw => by rfl) hH ?_
  simp only [Act.put, List.setIfInBounds_toArray, List.set_cons_zero, List.set_cons_succ]
  refine take_to 9 39 (.bool true) rfl (by kernel_rfl) (by kernel_rfl) (by kernel_rfl) (fun _ _ _ h => h) rfl (by rfl) (fun w hw => by rfl) hH ?_
  simp only [Act.put, List.setIfInBounds_toArray, List.set_cons_zero, List.set_cons_succ]
  refine take_to 10 40 (v1) rfl (by kernel_rfl) (by kernel_rfl) (by kernel_rfl) (fun _ _ _ h => h) rfl (by rfl) (fun w hw => by rfl) hH ?_
  simp only [Act.put, List.setIfInBounds_toArray, List.set_cons_zero, List.set_cons_succ]
  refine take_to 12 42 (.bool okd) rfl (by kernel_rfl) (by kernel_rfl) (by kernel_rfl) (fun _ _ _ h => h) rfl (by rfl) (fun w hw => by rfl) hH ?_
  simp only [Act.put, List.setIfInBounds_toArray, List.set_cons_zero, List.set_cons_succ]
  refine step_call1_to 11 41 12 rfl (by kernel_rfl) rfl (by rfl) (.tmp 40) _ rfl _ rfl Try.enters12 (HCK.out _ hH.1.1.1) ?_
  rintro e Z1 ⟨rfl, hz1⟩
  have s1 := hstep hH hz1
  refine ⟨_, rfl, s1, ?_⟩
  simp only [Act.put, List.setIfInBounds_toArray, List.set_cons_zero, List.set_cons_succ]
  refine take_to 13 43 (.bool true) rfl (by kernel_rfl) (by kernel_rfl) (by kernel_rfl) (fun _ _ _ h => h) rfl (by rfl) (fun w hw => op_eql4 _ _ (.tmp 41) (.tmp 42) 4 rfl _ rfl rfl) s1 ?_
  simp only [Act.put, List.setIfInBounds_toArray, List.set_cons_zero, List.set_cons_succ]
  refine take_to 14 44 (.bool true) rfl (by kernel_rfl) (by kernel_rfl) (by kernel_rfl) (fun _ _ _ h => h) rfl (by rfl) (fun w hw => by rfl) s1 ?_
  simp only [Act.put, List.setIfInBounds_toArray, List.set_cons_zero, List.set_cons_succ]
  refine take_to 15 45 (.bool true) rfl (by kernel_rfl) (by kernel_rfl) (by kernel_rfl) (fun _ _ _ h => h) rfl (by rfl) (fun w hw => by rfl) s1 ?_
  simp only [Act.put, List.setIfInBounds_toArray, List.set_cons_zero, List.set_cons_succ]
  refine take_to 16 46 (v1) rfl (by kernel_rfl) (by kernel_rfl) (by kernel_rfl) (fun _ _ _ h => h) rfl (by rfl) (fun w hw => by rfl) s1 ?_
  simp only [Act.put, List.setIfInBounds_toArray, List.set_cons_zero, List.set_cons_succ]
  refine take_to 18 48 (v2) rfl (by kernel_rfl) (by kernel_rfl) (by kernel_rfl) (fun _ _ _ h => h) rfl (by rfl) (fun w hw => by rfl) s1 ?_
  simp only [Act.put, List.setIfInBounds_toArray, List.set_cons_zero, List.set_cons_succ]
  refine step_call1_to 17 47 14 rfl (by kernel_rfl) rfl (by rfl) (.tmp 46) _ rfl _ rfl Try.enters14 (slots_nats s1.1.1.1) ?_
  rintro e Z2 ⟨a2, c2, rfl, hn2, hz2⟩
  have s2 := hstep s1 hz2
  refine ⟨_, rfl, s2, ?_⟩
  simp only [Act.put, List.setIfInBounds_toArray, List.set_cons_zero, List.set_cons_succ]
  refine step_call1_to 19 49 39 rfl (by kernel_rfl) rfl (by rfl) (.tmp 48) _ rfl _ rfl Try.enters39 (rslots_any s2.1.1.2) ?_
  rintro e Z3 ⟨a3, c3, rfl, hn3, hz3⟩
  have s3 := hstep s2 hz3
  refine ⟨_, rfl, s3, ?_⟩
  simp only [Act.put, List.setIfInBounds_toArray, List.set_cons_zero, List.set_cons_succ]
  refine step_call2_to 20 50 38 rfl (by kernel_rfl) rfl (by rfl) (.tmp 47) (.tmp 49) _ rfl _ _ rfl rfl Try.enters38 (ints_any (hn2.below hz3) hn3 rfl hsh) ?_
  rintro e Z4 ⟨rfl, hz4⟩
  have s4 := hstep s3 hz4
  refine ⟨_, rfl, s4, ?_⟩
  simp only [Act.put, List.setIfInBounds_toArray, List.set_cons_zero, List.set_cons_succ]
  refine take_to 21 51 (.bool true) rfl (by kernel_rfl) (by kernel_rfl) (by kernel_rfl) (fun _ _ _ h => h) rfl (by rfl) (fun w hw => by rfl) s4 ?_
  simp only [Act.put, List.setIfInBounds_toArray, List.set_cons_zero, List.set_cons_succ]
  refine take_to 22 52 (.bool true) rfl (by kernel_rfl) (by kernel_rfl) (by kernel_rfl) (fun _ _ _ h => h) rfl (by rfl) (fun w hw => by rfl) s4 ?_
  simp only [Act.put, List.setIfInBounds_toArray, List.set_cons_zero, List.set_cons_succ]
  refine take_to 23 53 (v1) rfl (by kernel_rfl) (by kernel_rfl) (by kernel_rfl) (fun _ _ _ h => h) rfl (by rfl) (fun w hw => by rfl) s4 ?_
  simp only [Act.put, List.setIfInBounds_toArray, List.set_cons_zero, List.set_cons_succ]
  refine take_to 25 55 (v2) rfl (by kernel_rfl) (by kernel_rfl) (by kernel_rfl) (fun _ _ _ h => h) rfl (by rfl) (fun w hw => by rfl) s4 ?_
  simp only [Act.put, List.setIfInBounds_toArray, List.set_cons_zero, List.set_cons_succ]
  refine step_call1_to 24 54 13 rfl (by kernel_rfl) rfl (by rfl) (.tmp 53) _ rfl _ rfl Try.enters13 (free_any s4.1.1.1) ?_
  rintro e Z5 ⟨rfl, hz5⟩
  have s5 := hstep s4 hz5
  refine ⟨_, rfl, s5, ?_⟩
  simp only [Act.put, List.setIfInBounds_toArray, List.set_cons_zero, List.set_cons_succ]
  refine step_call1_to 26 56 40 rfl (by kernel_rfl) rfl (by rfl) (.tmp 55) _ rfl _ rfl Try.enters40 (rfree_any s5.1.1.2) ?_
  rintro e Z6 ⟨rfl, hz6⟩
  have s6 := hstep s5 hz6
  refine ⟨_, rfl, s6, ?_⟩
  simp only [Act.put, List.setIfInBounds_toArray, List.set_cons_zero, List.set_cons_succ]
  refine take_to 27 57 (.bool true) rfl (by kernel_rfl) (by kernel_rfl) (by kernel_rfl) (fun _ _ _ h => h) rfl (by rfl) (fun w hw => op_eql3 _ _ (.tmp 54) (.tmp 56) 3 rfl _ _ rfl rfl true (by simp)) s6 ?_
  simp only [Act.put, List.setIfInBounds_toArray, List.set_cons_zero, List.set_cons_succ]
  refine take_to 28 58 (.bool true) rfl (by kernel_rfl) (by kernel_rfl) (by kernel_rfl) (fun _ _ _ h => h) rfl (by rfl) (fun w hw => by rfl) s6 ?_
  simp only [Act.put, List.setIfInBounds_toArray, List.set_cons_zero, List.set_cons_succ]
  refine take_to 29 59 (.bool true) rfl (by kernel_rfl) (by kernel_rfl) (by kernel_rfl) (fun _ _ _ h => h) rfl (by rfl) (fun w hw => by rfl) s6 ?_
  simp only [Act.put, List.setIfInBounds_toArray, List.set_cons_zero, List.set_cons_succ]
  refine take_to 30 60 (v1) rfl (by kernel_rfl) (by kernel_rfl) (by kernel_rfl) (fun _ _ _ h => h) rfl (by rfl) (fun w hw => by rfl) s6 ?_
  simp only [Act.put, List.setIfInBounds_toArray, List.set_cons_zero, List.set_cons_succ]
  refine take_to 32 62 (.pointer (some ⟨bx, 0, none⟩)) rfl (by kernel_rfl) (by kernel_rfl) (by kernel_rfl) (fun _ _ _ h => h) rfl (by rfl) (fun w hw => by rfl) s6 ?_
  simp only [Act.put, List.setIfInBounds_toArray, List.set_cons_zero, List.set_cons_succ]
  refine take_to 33 63 (.int .i64 (nx : Int)) rfl (by kernel_rfl) (by kernel_rfl) (by kernel_rfl) (fun _ _ _ h => h) rfl (by rfl) (fun w' hw => op_load _ _ 3 (.tmp 62) rfl (.pointer (some ⟨bx, 0, none⟩)) _ rfl (run_loadAny w' bx 0 3 _ Try.isAgg3 hw.2)) s6 ?_
  simp only [Act.put, List.setIfInBounds_toArray, List.set_cons_zero, List.set_cons_succ]
  refine step_call1_to 31 61 11 rfl (by kernel_rfl) rfl (by rfl) (.tmp 60) _ rfl _ rfl Try.enters11 (HNX.out _ s6.1.1.1) ?_
  rintro e Z7 ⟨rfl, hz7⟩
  have s7 := hstep s6 hz7
  refine ⟨_, rfl, s7, ?_⟩
  simp only [Act.put, List.setIfInBounds_toArray, List.set_cons_zero, List.set_cons_succ]
  refine step_to 34 64 (.bool true) Z7 rfl (by kernel_rfl) rfl (by rfl) (op_eql3 _ _ (.tmp 61) (.tmp 63) 3 rfl _ _ rfl rfl true (by simp)) s7 ?_
  simp only [Act.put, List.setIfInBounds_toArray, List.set_cons_zero, List.set_cons_succ]
  refine step_to 35 65 (.bool true) Z7 rfl (by kernel_rfl) rfl (by rfl) (rfl) s7 ?_
  simp only [Act.put, List.setIfInBounds_toArray, List.set_cons_zero, List.set_cons_succ]
  refine step_to 36 6 (.bool true) Z7 rfl (by kernel_rfl) rfl (by rfl) (rfl) s7 ?_
  simp only [Act.put, List.setIfInBounds_toArray, List.set_cons_zero, List.set_cons_succ]
  refine wpAnyH_done (by kernel_rfl) ?_ _
  go_wp2
  go_ret
  have t0 := HB3.out.size
  have t1 : W4.heap.size ≤ Z1.heap.size := hz1.size
  have t2 := hz2.size
  have t3 := hz3.size
  have t4 := hz4.size
  have t5 := hz5.size
  have t6 := hz6.size
  exact ⟨rfl, (((((((HB3.out.trans (below_drewN _ _ 1)).trans (hz1.mono (show _ ≤ W4.heap.size by omega))).trans (hz2.mono (by omega))).trans (hz3.mono (by omega))).trans (hz4.mono (by omega))).trans (hz5.mono (by omega))).trans (hz6.mono (by omega))).trans (hz7.mono (by omega))⟩
end Go.Proofs.Ytdddeneppciiiaa
