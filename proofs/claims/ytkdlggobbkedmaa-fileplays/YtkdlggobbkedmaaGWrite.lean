/- The document's own file: a Write that is one. -/
import Derived.Test.YtkdlggobbkedmaaGFile
namespace Go.Proofs.Ytkdlggobbkedmaa
open Go.RowKit
set_option linter.unusedVariables false
set_option linter.unusedSimpArgs false

theorem own_str {w : World} {v : Value} {n : Nat} {bs : List UInt8} (h : w.ownsRow 0 5 1 v n (secCells bs)) (hn : bs.length = n) (h0 : 0 < n) : (convert 31 9 v).run Try.prog w = .ok (.string (strOf bs)) w := by
  rcases h.2 with ⟨rfl, h1⟩ | ⟨g, cap, cur, rfl, _⟩
  · omega
  · rw [run_convert_bytes_string w 31 9 5 _ _ _ Try.underlying31 Try.underlying5 Try.underlying9]
    have hload : (loadCells ⟨g, 0, none⟩ n).run Try.prog w = .ok ((bs.map fun b => (b.toNat : Int)).map (Value.int .u8)).toArray w := by
      have := run_loadCells_list (P := Try.prog) w ⟨g, 0, none⟩ (secCells bs) (fun j u hu => h.cells rfl j u hu)
      rw [length_secCells, hn] at this
      rw [this]
      simp [secCells, bcell]
    rw [run_bytesToString w _ _ _ _ hload, foldl_push]
    simp [strOf]
theorem step_call0_to {P : Program} {ops : Array Oper} {Q : Exit → Act → World → Prop} {md : Region.Mode} {S : World → Prop} {o : Oper} {fuel : Nat} {listed : Array Bool} {a : Act} {w : World} {R : Ending → World → Prop} (j dst f : Nat) (hj : ops[j]? = some o)
    (hr : Region.ready md ops listed = [j]) (hd : o.dst = some dst) (hw : Region.wanted o (yielded ops a.tmps) = true) (ts : Array TypeId) (hop : o.op = Op.call { callee := Callee.value (Operand.func f), args := #[], argTypes := ts })
    (hcf : ∀ args w, (callFunc f args).run P w = .ok (.enter f args) w) (hc : Calls P f #[] w R)
    (hK : ∀ e w', R e w' → ∃ v, e = .returned v ∧ S w' ∧ wpAnyH P md ops Q S fuel (listed.setIfInBounds j true) (a.put (some dst) v) w') : wpAnyH P md ops Q S (fuel + 1) listed a w := by
  refine step_by j hj hr (fun K hK' => ?_)
  rw [if_pos hw]
  have hrun : (execOp a.eval o).run P w = .ok (.enter f #[]) w := by
    have hff : a.eval (.func f) = .func (.func f) #[] #[] := rfl
    unfold execOp
    simp [hop, resolve, hff, Deferred.ofValue, invoke]
    exact hcf _ _
  unfold Oper.wp
  rw [hrun, Oper.upon_enter]
  refine hc.mono ?_
  intro e w' hR
  obtain ⟨v, rfl, hS, hW⟩ := hK e w' hR
  show K (a.put o.dst v) w'
  rw [hd]
  exact hK' _ _ hS hW
theorem Try.enters37 (args : Array Value) (w : World) : (callFunc 37 args).run Try.prog w = .ok (.enter 37 args) w := by kernel_rfl
theorem Try.enters38 (args : Array Value) (w : World) : (callFunc 38 args).run Try.prog w = .ok (.enter 38 args) w := by kernel_rfl
theorem op_cut8 (ρ : Operand → Value) (o : Oper) (x : Operand) (ho : o.op = .slice 9 x (some (.const (.int .i64 8))) none none) (hc : ρ (.const (.int .i64 8)) = .int .i64 8) (s : List UInt8) (hx : ρ x = .string (strOf s)) (hs : 8 ≤ s.length) {w : World} : (execOp ρ o).run Try.prog w = .ok (.value (.string (strOf (s.drop 8)))) w := by
  have h := run_cutstr_from w s 8 hs
  have h' : (Instr.sliceAt 9 (.string (strOf s)) (some (.int .i64 8)) none none).run Try.prog w = .ok (.string (strOf (s.drop 8))) w := h
  unfold execOp
  simp only [ho, hx, Option.map_some, Option.map_none, hc, Sem.run_bind, h', Result.andThen_ok, Sem.run_pure]
theorem op_addstr (ρ : Operand → Value) (o : Oper) (x y : Operand) (tt : TypeId) (ho : o.op = .binOp .add 9 x y tt) (a b : List UInt8) (hx : ρ x = .string (strOf a)) (hy : ρ y = .string (strOf b)) (hl : a.length + b.length ≤ 1000) {w : World} : (execOp ρ o).run Try.prog w = .ok (.value (.string (strOf (a ++ b)))) w := by
  have hu := Try.underlying9
  have h1 : (strOf a).size = a.length := size_strOf a
  have h2 : (strOf b).size = b.length := size_strOf b
  have h3 : ¬ (9223372036854775807 < (strOf a).size + (strOf b).size) := by omega
  unfold execOp
  simp only [ho, hx, hy]
  simp [go_sem, hu, h3, strOf_append]

/-- The eight bytes on their way: m are left. -/
structure HeadAt (w wr : World) (v : Nat) (hv : Value) (m : Nat) : Prop where
  own : wr.ownsRow 0 5 1 hv (8 - m) (secCells ((be8 v).take (8 - m)))
  new : ∀ k, hv.ownBlock = some k → w.heap.size ≤ k
  below : Below w.heap.size w wr

set_option maxHeartbeats 4000000 in
set_option maxRecDepth 100000 in
theorem rfwrite_go {w : World} {q p fr n : Nat} {fp : List Nat} {D : Dv} (i : Nat) (bs : List UInt8) (hl : bs.length = 512) (h : RFileAt w q p fr n false) (hD : RefAt w p fp D) (hwf : D.wf) (hq : q ∉ fp) (hW : D.W.length ≤ 800000) (hfr : fr + 5 + 4 * n ≤ D.L.length) (hi : i < n) :
    Calls Try.prog 15 #[.pointer (some ⟨q, 0, none⟩), .int .i64 (i : Int), .string (strOf bs)] w fun e w' => e = .returned (.int .i64 (D.carJ fr i bs).1) ∧
      ∃ fp', RFileAt w' q p fr n ((D.carJ fr i bs).1 != 0) ∧ RefAt w' p fp' (D.carJ fr i bs).2 ∧ Off (q :: fp) w w' ∧ (∀ k ∈ fp', k ∈ fp ∨ w.heap.size ≤ k) ∧ q ∉ fp' := by
  have hmax := hwf.max
  obtain ⟨R, hR⟩ : ∃ R, D.carJ fr i bs = R := ⟨_, rfl⟩
  rw [hR]
  have HR := hide hR
  have k3 := h.c3
  have k2 := h.c2
  have hd0 : decide ((n : Int) ≤ (i : Int)) = false := by simp; omega
  have hd1 : decide (n ≤ i) = false := by simp; omega
  have hd2 : decide ((i : Int) < 0) = false := by simp
  have hsz : (strOf bs).size = 512 := by rw [size_strOf, hl]
  have HC : Hid (RCar w w q p fr n false fp fp D) := ⟨h, hD, hwf, Off.refl _ _, fun k hk => .inl hk, hq⟩
  have HL := hide hl
  clear hR h hD hwf hq hl
  go_enter Try.func15, Try.ntmps15
  go_wp2
  go_loopw [8, 7] (fun jv hv wr => ∃ m : Nat, m ≤ 8 ∧ jv = .int .i64 ((m : Int) - 1) ∧ HeadAt w wr (i + 1) hv m) (fun jv _ _ => (intOf jv + 1).toNat)
  case atStart => exact ⟨8, by omega, rfl, World.ownsRow_nil _ _ _ _, fun k hk => by simp [Value.ownBlock] at hk, Below.refl _ _⟩
  case round =>
    clear k3 k2
    obtain ⟨m, hm, rfl, hH⟩ := hrel
    by_cases h0 : 0 < m
    · obtain ⟨j, rfl⟩ : ∃ j, m = j + 1 := ⟨m - 1, by omega⟩
      have e1 : ((j + 1 : Nat) : Int) - 1 = (j : Int) := by omega
      rw [e1]
      clear e1
      obtain ⟨ho, hn, hc, hv⟩ := own_form hH.own
      subst hv
      have HH := hide hH
      have HLB : Hid (((be8 (i + 1)).take (8 - (j + 1))).length = 8 - (j + 1)) := by show _ = _; rw [List.length_take, length_be8]; omega
      clear hH
      have hbu := Try.built1
      have hlt : 7 - j < 8 := by omega
      have hcell : Value.int .u8 (((i : Int) + 1) / 2 ^ (8 * j) % 256) = bcell ((be8 (i + 1))[7 - j]'(by rw [length_be8]; exact hlt)) := by
        have := be8_cell (i + 1) (7 - j) hlt
        rw [show 7 - (7 - j) = j by omega, show ((i + 1 : Nat) : Int) = (i : Int) + 1 by omega] at this
        exact this
      have htake : (be8 (i + 1)).take (8 - (j + 1)) ++ [(be8 (i + 1))[7 - j]'(by rw [length_be8]; exact hlt)] = (be8 (i + 1)).take (8 - j) := by
        rw [show 8 - j = (8 - (j + 1)) + 1 by omega, List.take_succ_eq_append_getElem (by rw [length_be8]; omega)]
        congr 2
        simp only [show 8 - (j + 1) = 7 - j by omega]
      have HNEW : Hid (secCells ((be8 (i + 1)).take (8 - (j + 1))) ++ [Value.int .u8 (((i : Int) + 1) / 2 ^ (8 * j) % 256)] = secCells ((be8 (i + 1)).take (8 - j))) := by
        show _ = _
        rw [← htake, hcell]
        unfold secCells
        rw [List.map_append]
        rfl
      clear hcell htake
      have HOA := hide (fun (W : World) (hb : Below wr.heap.size wr W) => owns_of_block HH.out.own (fun k hk => hb.block k (HH.out.own.lt k hk).2))
      have HSR : Hid (∀ c : Value, ∀ j' u, ([c] : List Value)[j']? = some u → (wr.alloc (.cells #[c] 5)).cell? ((⟨wr.heap.size, 0, none⟩ : Addr).add j') = some u) := fun c => src_of_block (heap_alloc_new wr _)
      go_wp2_with (refine wpList_append_owned rfl (.tmp 33) (.tmp 40) 31 rfl 5 (.int .u8 0) 1 1 Try.underlying31 Try.info5 rfl (by omega) (.slice ho hn hc) (8 - (j + 1)) (secCells ((be8 (i + 1)).take (8 - (j + 1)))) rfl (HOA.out _ ((Below.refl _ _).alloc (Nat.le_refl _) _)) ⟨wr.heap.size, 0, none⟩ 1 1 [.int .u8 (((i : Int) + 1) / 2 ^ (8 * j) % 256)] rfl rfl (HSR.out _) (by simp [Value.oneCell']) (by simp only [maxLen]; omega) (by omega) (fun v' w6 r1 r2 r3 => ?_); rw [HNEW.out] at r1; obtain ⟨vo, vn, vc, hv⟩ := own_form r1; subst hv)
      have HH2 : Hid (HeadAt w w6 (i + 1) (.slice vo vn vc) j) := by
        have hba : Below wr.heap.size wr (wr.alloc (.cells #[.int .u8 (((i : Int) + 1) / 2 ^ (8 * j) % 256)] 5)) := (Below.refl _ _).alloc (Nat.le_refl _) _
        have hsw := HH.out.below.size
        have hg : Below w.heap.size w w6 := (HH.out.below.trans (hba.mono hsw)).trans (⟨r2.os, r2.tape, r2.output, r2.size, fun k hk => r2.block k (Nat.lt_of_lt_of_le hk (Nat.le_trans hsw hba.size)) (fun e => by have := HH.out.new k e.symm; omega)⟩)
        refine ⟨by rw [show 8 - j = 8 - (j + 1) + 1 by omega] at r1 ⊢; exact r1, fun k hk => ?_, hg⟩
        rcases r3 k hk with h1 | h1
        · exact HH.out.new k h1
        · exact Nat.le_trans (Nat.le_trans hsw hba.size) h1
      go_roundw
      case rel => exact ⟨j, by omega, by go_num, HH2.out⟩
      case measure => simp [intOf]

    · have hm0 : m = 0 := by omega
      subst hm0
      obtain ⟨ho, hn, hc, hv⟩ := own_form hH.own
      subst hv
      have HC1 := hide (HC.out.belowW hH.below)
      have HLT : Hid (∀ k ∈ fp, k < w.heap.size) := fun k hk => HC.out.dev.lim k hk
      have HSTR : Hid (∀ W, Off fp wr W → (convert 31 9 (.slice ho hn hc)).run Try.prog W = .ok (.string (strOf (be8 (i + 1)))) W) := fun W hO => by
        have h8 : (be8 (i + 1)).take (8 - 0) = be8 (i + 1) := List.take_of_length_le (by rw [length_be8]; omega)
        have ho := hH.own
        rw [h8] at ho
        exact own_str (owns_of_block ho (fun k hk => hO.block k (ho.lt k hk).2 (fun hm => by have := HLT.out k hm; have := hH.new k hk; omega))) (length_be8 _) (by omega)
      have k1 := HC1.out.fl.c1
      have HLA := hide (rput_any (fr + 1) bs HL.out HC1.out.fl HC1.out.dev HC1.out.wf HC1.out.nq (by omega) (by omega))
      have hLW := lay_W (secsOf 4 bs) D (fr + 1)
      rw [length_secsOf] at hLW
      have hwf2 := wf_lay (secsOf 4 bs) D (fr + 1) HC1.out.wf
      unfold Dv.carJ at HR
      obtain ⟨⟨x, E⟩, hX⟩ : ∃ X, D.lay (fr + 1) (secsOf 4 bs) = X := ⟨_, rfl⟩
      rw [hX] at HR HLA hLW hwf2
      have hLW : E.W.length ≤ D.W.length + 4 := hLW
      have hwf2 : E.wf := hwf2
      have HWF2 := hide hwf2
      clear hX hH hwf2
      by_cases hx : x = 0
      · subst hx
        rw [onOk_ok rfl] at HR
        go_wp2_with fail
        refine HLA.out.mono ?_
        rintro e w2 ⟨rfl, fp2, hD2, hO2, hF2⟩
        have hD2 : RefAt w2 p fp2 E := hD2
        have HC2 := hide (HC1.out.next hD2 HWF2.out hO2 hF2)
        have HO2 := hide hO2
        have HF2 := hide hF2
        clear hD2 hO2 hF2 HLA
        have hLW2 := lay_W [headOf (i + 1)] E fr
        unfold Dv.carH at HR
        obtain ⟨⟨YV, E2⟩, hY⟩ : ∃ Y, E.lay fr [headOf (i + 1)] = Y := ⟨_, rfl⟩
        rw [hY] at HR hLW2
        have hLW2 : E2.W.length ≤ E.W.length + 1 := hLW2
        go_wp2
        refine wp_region_held_drew (S := fun w' => Off fp wr w') (by kernel_rfl) (HO2.out.drewN 1) (fun hH => ?_)
        refine take_to 0 52 (.pointer (some ⟨q, 0, none⟩)) rfl (by kernel_rfl) (by kernel_rfl) (by kernel_rfl) (fun _ _ _ h => h) rfl (by rfl) (fun w hw => by rfl) hH ?_
        simp only [Act.put, List.setIfInBounds_toArray, List.set_cons_zero, List.set_cons_succ]
        refine take_to 1 53 (.slice ho hn hc) rfl (by kernel_rfl) (by kernel_rfl) (by kernel_rfl) (fun _ _ _ h => h) rfl (by rfl) (fun w hw => by rfl) hH ?_
        simp only [Act.put, List.setIfInBounds_toArray, List.set_cons_zero, List.set_cons_succ]
        refine take_to 2 54 (.string (strOf (be8 (i + 1)))) rfl (by kernel_rfl) (by kernel_rfl) (by kernel_rfl) (fun _ _ _ h => h) rfl (by rfl) (fun w hw => op_conv _ _ 31 9 (.tmp 53) rfl _ _ rfl (HSTR.out w hw)) hH ?_
        simp only [Act.put, List.setIfInBounds_toArray, List.set_cons_zero, List.set_cons_succ]
        refine step_call0_to 3 55 38 rfl (by kernel_rfl) rfl (by rfl) _ rfl Try.enters38 (fblank_any w2.drew) ?_
        rintro e w3 ⟨rfl, hb3'⟩
        have hb3 : Below w2.heap.size w2 w3 := (below_drewN w2.heap.size w2 1).trans hb3'
        have hO3 : Off fp wr w3 := HO2.out.trans (Off.of_below hb3 []) (by simp)
        have HC3 := hide (HC2.out.belowW hb3)
        refine ⟨_, rfl, hO3, ?_⟩
        simp only [Act.put, List.setIfInBounds_toArray, List.set_cons_zero, List.set_cons_succ]
        refine step_to 4 56 (.string (strOf (zeros.drop 8))) w3 rfl (by kernel_rfl) rfl (by rfl) (op_cut8 _ _ (.tmp 55) rfl rfl zeros rfl (by rw [length_zeros]; omega)) hO3 ?_
        simp only [Act.put, List.setIfInBounds_toArray, List.set_cons_zero, List.set_cons_succ]
        refine step_to 5 57 (.string (strOf (headOf (i + 1)))) w3 rfl (by kernel_rfl) rfl (by rfl) (op_addstr _ _ (.tmp 54) (.tmp 56) 9 rfl (be8 (i + 1)) (zeros.drop 8) rfl rfl (by rw [length_be8, List.length_drop, length_zeros]; omega)) hO3 ?_
        simp only [Act.put, List.setIfInBounds_toArray, List.set_cons_zero, List.set_cons_succ]
        have HHD := hide (rhead_any (headOf (i + 1)) (length_headOf _) HC3.out.fl HC3.out.dev HC3.out.wf HC3.out.nq (by omega) (by omega))
        rw [hY] at HHD
        refine step_call2_to 6 58 37 rfl (by kernel_rfl) rfl (by rfl) (.tmp 52) (.tmp 57) _ rfl _ _ rfl rfl Try.enters37 HHD.out ?_
        rintro e w4 ⟨rfl, fp4, hD4, hO4, hF4⟩
        have hD4 : RefAt w4 p fp4 E2 := hD4
        have hwf4 := wf_lay [headOf (i + 1)] E fr HC3.out.wf
        rw [hY] at hwf4
        have hwf4 : E2.wf := hwf4
        have HC4 := hide (HC3.out.next hD4 hwf4 hO4 hF4)
        have hO4w : Off fp wr w4 := hO3.trans hO4 (fun k hk => by
          rcases HC3.out.fresh k hk with h1 | h1
          · exact .inl h1
          · rcases HF2.out k hk with h2 | h2
            · exact .inl h2
            · exact .inr h2)
        refine ⟨_, rfl, hO4w, ?_⟩
        simp only [Act.put, List.setIfInBounds_toArray, List.set_cons_zero, List.set_cons_succ]
        refine step_to 7 9 (.int .i64 YV) w4 rfl (by kernel_rfl) rfl (by rfl) (rfl) hO4w ?_
        simp only [Act.put, List.setIfInBounds_toArray, List.set_cons_zero, List.set_cons_succ]
        refine wpAnyH_done (by kernel_rfl) ?_ _
        clear hH hO3 hO4w hD4 hO4 hF4 hwf4 HHD hb3 hb3'
        by_cases hy : YV = 0
        · subst hy
          rw [onOk_ok rfl] at HR
          have HAT := hide (rat_any i HC4.out.fl (by omega) (by omega))
          have HPU := hide (rput_any (fr + 5 + 4 * i) bs HL.out HC4.out.fl HC4.out.dev HC4.out.wf HC4.out.nq (by omega) (by omega))
          have hLW3 := lay_W (secsOf 4 bs) E2 (fr + 5 + 4 * i)
          rw [length_secsOf] at hLW3
          have hwf5 := wf_lay (secsOf 4 bs) E2 (fr + 5 + 4 * i) HC4.out.wf
          unfold Dv.carP at HR
          obtain ⟨⟨z, E3⟩, hZ⟩ : ∃ Z, E2.lay (fr + 5 + 4 * i) (secsOf 4 bs) = Z := ⟨_, rfl⟩
          rw [hZ] at HR HPU hLW3 hwf5
          have hLW3 : E3.W.length ≤ E2.W.length + 4 := hLW3
          have hwf5 : E3.wf := hwf5
          have HWF5 := hide hwf5
          clear hZ hwf5 hY
          by_cases hz : z = 0
          · subst hz
            rw [onOk_ok rfl] at HR
            go_wp2_with (first | (go_at_call 36; refine HAT.out.mono ?_; rintro e w' ⟨rfl, hw⟩; have hw := hw.symm; subst hw) | fail)
            refine HPU.out.mono ?_
            rintro e w5 ⟨rfl, fp5, hD5, hO5, hF5⟩
            have hD5 : RefAt w5 p fp5 E3 := hD5
            have HC5 := hide (HC4.out.next hD5 HWF5.out hO5 hF5)
            clear hD5 hO5 hF5 HPU HAT
            go_wp2_with fail
            refine (fblank_any w5).mono ?_
            rintro e w6 ⟨rfl, hb6⟩
            have HC6 := hide (HC5.out.belowW hb6)
            have HHE := hide (rhead_any zeros length_zeros HC6.out.fl HC6.out.dev HC6.out.wf HC6.out.nq (by omega) (by omega))
            have hwf7 := wf_lay [zeros] E3 fr HC6.out.wf
            rw [zeros_head, HR.out] at HHE hwf7
            clear hb6
            go_wp2_with fail
            refine HHE.out.mono ?_
            rintro e w7 ⟨rfl, fp7, hD7, hO7, hF7⟩
            have HC7 := hide (HC6.out.next hD7 hwf7 hO7 hF7)
            clear hD7 hO7 hF7 HHE
            have k37 := HC7.out.fl.c3
            have f37 := HC7.out.fl.fz 3
            go_wp2
            go_ret
            exact ⟨rfl, _, HC7.out.fl.fail, HC7.out.dev.apart ((Off.refl [q] w7).setCell _ _ (.inl (by simp))) (fun k hk hm => by simp at hm; exact HC7.out.nq (hm ▸ hk)), (HC7.out.off.mono (fun k hk => List.mem_cons_of_mem q hk)).setCell _ _ (.inl (by simp)), HC7.out.fresh, HC7.out.nq⟩
          · rw [onOk_no hz] at HR
            have hzb : (z == 0) = false := by simpa using hz
            have hzn : (z != 0) = true := by simpa using hz
            go_wp2_with (first | (go_at_call 36; refine HAT.out.mono ?_; rintro e w' ⟨rfl, hw⟩; have hw := hw.symm; subst hw) | fail)
            refine HPU.out.mono ?_
            rintro e w5 ⟨rfl, fp5, hD5, hO5, hF5⟩
            have hD5 : RefAt w5 p fp5 E3 := hD5
            have HC5 := hide (HC4.out.next hD5 HWF5.out hO5 hF5)
            clear hD5 hO5 hF5 HPU HAT
            have k35 := HC5.out.fl.c3
            have f35 := HC5.out.fl.fz 3
            go_wp2
            go_ret
            rw [← HR.out]
            have hkn : (((z, E3) : Int × Dv).1 != 0) = true := hzn
            rw [hkn]
            first
              | exact ⟨rfl, _, HC5.out.fl.fail, HC5.out.dev.apart ((Off.refl [q] w5).setCell _ _ (.inl (by simp))) (fun k hk hm => by simp at hm; exact HC5.out.nq (hm ▸ hk)), (HC5.out.off.mono (fun k hk => List.mem_cons_of_mem q hk)).setCell _ _ (.inl (by simp)), HC5.out.fresh, HC5.out.nq⟩
              | exact ⟨rfl, HC5.out.fl.fail, _, HC5.out.dev.apart ((Off.refl [q] w5).setCell _ _ (.inl (by simp))) (fun k hk hm => by simp at hm; exact HC5.out.nq (hm ▸ hk)), (HC5.out.off.mono (fun k hk => List.mem_cons_of_mem q hk)).setCell _ _ (.inl (by simp)), HC5.out.fresh, HC5.out.nq⟩
        · rw [onOk_no hy] at HR
          have hyb : (YV == 0) = false := by simpa using hy
          have hyn : (YV != 0) = true := by simpa using hy
          have k34 := HC4.out.fl.c3
          have f34 := HC4.out.fl.fz 3
          go_wp2
          go_ret
          rw [← HR.out]
          have hkn : (((YV, E2) : Int × Dv).1 != 0) = true := hyn
          rw [hkn]
          first
            | exact ⟨rfl, _, HC4.out.fl.fail, HC4.out.dev.apart ((Off.refl [q] w4).setCell _ _ (.inl (by simp))) (fun k hk hm => by simp at hm; exact HC4.out.nq (hm ▸ hk)), (HC4.out.off.mono (fun k hk => List.mem_cons_of_mem q hk)).setCell _ _ (.inl (by simp)), HC4.out.fresh, HC4.out.nq⟩
            | exact ⟨rfl, HC4.out.fl.fail, _, HC4.out.dev.apart ((Off.refl [q] w4).setCell _ _ (.inl (by simp))) (fun k hk hm => by simp at hm; exact HC4.out.nq (hm ▸ hk)), (HC4.out.off.mono (fun k hk => List.mem_cons_of_mem q hk)).setCell _ _ (.inl (by simp)), HC4.out.fresh, HC4.out.nq⟩

      · rw [onOk_no hx] at HR
        have hxb : (x == 0) = false := by simpa using hx
        have hxn : (x != 0) = true := by simpa using hx
        go_wp2_with fail
        refine HLA.out.mono ?_
        rintro e w2 ⟨rfl, fp2, hD2, hO2, hF2⟩
        have hD2 : RefAt w2 p fp2 E := hD2
        have HC2 := hide (HC1.out.next hD2 HWF2.out hO2 hF2)
        clear hD2 hO2 hF2
        have k32 := HC2.out.fl.c3
        have f32 := HC2.out.fl.fz 3
        go_wp2
        go_ret
        rw [← HR.out]
        have hkn : (((x, E) : Int × Dv).1 != 0) = true := hxn
        rw [hkn]
        first
          | exact ⟨rfl, _, HC2.out.fl.fail, HC2.out.dev.apart ((Off.refl [q] w2).setCell _ _ (.inl (by simp))) (fun k hk hm => by simp at hm; exact HC2.out.nq (hm ▸ hk)), (HC2.out.off.mono (fun k hk => List.mem_cons_of_mem q hk)).setCell _ _ (.inl (by simp)), HC2.out.fresh, HC2.out.nq⟩
          | exact ⟨rfl, HC2.out.fl.fail, _, HC2.out.dev.apart ((Off.refl [q] w2).setCell _ _ (.inl (by simp))) (fun k hk hm => by simp at hm; exact HC2.out.nq (hm ▸ hk)), (HC2.out.off.mono (fun k hk => List.mem_cons_of_mem q hk)).setCell _ _ (.inl (by simp)), HC2.out.fresh, HC2.out.nq⟩

end Go.Proofs.Ytkdlggobbkedmaa
