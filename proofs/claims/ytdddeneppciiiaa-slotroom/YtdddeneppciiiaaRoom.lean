/- SlotRoom's walk. -/
import Derived.Test.YtdddeneppciiiaaNext
import Derived.Deep.CutBlock
namespace Go.Proofs.Ytdddeneppciiiaa
open Go.RowKit
set_option linter.unusedVariables false
set_option linter.unusedSimpArgs false

theorem op_call1 {P : Program} {ops : Array Oper} {Q : Exit → Act → World → Prop} {o : Oper} {a : Act} {w : World} {K : Act → World → Prop} {i : Nat} {R : Ending → World → Prop} (dst f : Nat) (hi : ops[i]? = some o)
    (hd : o.dst = some dst) (hw : Region.wanted o (yielded ops a.tmps) = true) (x : Operand) (ts : Array TypeId) (hop : o.op = Op.call { callee := Callee.value (Operand.func f), args := #[x], argTypes := ts })
    (vx : Value) (hx : a.eval x = vx) (hcf : ∀ args w, (callFunc f args).run P w = .ok (.enter f args) w) (hc : Calls P f #[vx] w R)
    (h : ∀ e w', R e w' → ∃ v, e = .returned v ∧ K (a.put (some dst) v) w') : wpOp P ops Q i K a w := by
  refine wpOp_step hi (fun K' hK => ?_)
  rw [if_pos hw]
  have hrun : (execOp a.eval o).run P w = .ok (.enter f #[vx]) w := by
    have hff : a.eval (.func f) = .func (.func f) #[] #[] := rfl
    unfold execOp
    simp [hop, resolve, hff, Deferred.ofValue, invoke, hx]
    exact hcf _ _
  unfold Oper.wp
  rw [hrun, Oper.upon_enter]
  refine hc.mono ?_
  intro e w' hR
  obtain ⟨v, rfl, hW⟩ := h e w' hR
  show K' (a.put o.dst v) w'
  rw [hd]
  exact hK _ _ hW
/-- No slot is empty. -/
def Full (g : Pg) : Prop := ∀ s ∈ g.sl, s.isSome = true
theorem full_slotsOf : ∀ (S : List Slt) (i : Nat), (∀ s ∈ S, s.isSome = true) → slotsOf S i = List.range' i S.length
  | [], i, h => rfl
  | none :: S, i, h => by have := h none (by simp); cases this
  | some d :: S, i, h => by rw [slotsOf, full_slotsOf S (i + 1) (fun s hs => h s (by simp [hs])), List.length_cons, List.range'_succ]
theorem full_slots {g : Pg} (h : Full g) : g.slots = List.range' 0 g.sl.length := full_slotsOf g.sl 0 h
theorem full_len {g : Pg} (h : Full g) : g.slots.length = g.sl.length := by rw [full_slots h, List.length_range']
theorem full_get {g : Pg} (h : Full g) {j : Nat} (hj : j < g.sl.length) : g.slots.getD j 0 = j := by
  rw [full_slots h]
  simp [List.getD, hj]
theorem full_at {g : Pg} (h : Full g) {j : Nat} (hj : j < g.sl.length) : ∃ d, g.sl.getD j none = some d := by
  have := h _ (List.getElem_mem hj)
  obtain ⟨d, hd⟩ := Option.isSome_iff_exists.1 this
  exact ⟨d, by simp [hj, hd]⟩
theorem full_least {g : Pg} (h : Full g) : g.least = g.sl.length := by
  refine List.findIdx_eq_length_of_false fun x hx => ?_
  have := h x hx
  cases x with
  | none => cases this
  | some d => rfl
theorem full_putS {g : Pg} (h : Full g) (d : List UInt8) : g.putS d = g.sl ++ [some d] := by unfold Pg.putS; rw [if_pos (full_least h)]
theorem full_put {g : Pg} (h : Full g) (d : List UInt8) : Full (g.put d) := by
  intro s hs
  have hs : s ∈ g.putS d := hs
  rw [full_putS h] at hs
  rcases List.mem_append.1 hs with hs | hs
  · exact h s hs
  · simp at hs; subst hs; rfl
theorem full_size {g : Pg} (h : Full g) (d : List UInt8) : tsize (g.putS d) = g.size + 4 + d.length := by
  rw [full_putS h]
  simp only [Pg.size, tsize, List.length_append, List.length_singleton, blen_append, blen, slen, Option.getD_some]
  omega
theorem run_index31 (w : World) (g o n cap i : Nat) (h : i < n) : (Instr.indexAt 31 (.slice (some ⟨g, o, none⟩) n cap) (.int .i64 (i : Int))).run Try.prog w = .ok (.pointer (some ⟨g, o + i, none⟩)) w := by
  have hu := Try.underlying31
  have hs := Try.sizeOf3
  simp [go_sem, hu, hs, h]
theorem full_zero : Full Pg.zero := fun s hs => by simp [Pg.zero] at hs
set_option maxHeartbeats 1000000 in
set_option maxRecDepth 100000 in
theorem roomy_any {w : World} {ap : Option Addr} {cp : Nat} {g : Pg} (hg : Good g) (hf : Full g) (h : Sl w (.slice ap 504 cp) g.enc) :
    Calls Try.prog 25 #[.slice ap 504 cp] w fun e w' => e = .returned (.bool (decide (g.size + 4 ≤ 504))) ∧ Below w.heap.size w w' := by
  have HG := hide hg
  have HF := hide hf
  have HP := hide h
  have HX := hide (slots_ok hg h)
  have hsz := hg.size
  have hgs : g.size = 6 + 4 * g.sl.length + blen g.sl := rfl
  have HGS : Hid (g.size = 6 + 4 * g.sl.length + blen (g.sl.take g.sl.length)) := by rw [Hid, List.take_length]; rfl
  rw [full_len hf] at HX
  have HSL := hide (full_len hf)
  have hL : g.sl.length ≤ 200 := by omega
  have HBT : Hid (∀ k, blen (g.sl.take k) ≤ 1000) := fun k => by have := blen_take_le g.sl k; omega
  clear h hg hf hgs
  generalize hLL : g.sl.length = L at *
  go_enter Try.func25, Try.ntmps25
  go_wp2_with (go_at_call 14; refine HX.out.mono ?_; rintro e W1 ⟨ak, ck, rfl, hown, hb1⟩)
  have HNA : Hid (NatsAt W1 ak g.slots) := nats_of (by rw [HSL.out]; exact hown)
  have HP1 := hide (HP.out.belowW hb1)
  have HB1 := hide hb1
  clear HX hown hb1 HP
  go_loopw [5, 3] (fun i n wr => ∃ j B : Nat, j ≤ L ∧ i = .int .i64 (j : Int) ∧ n = .int .i64 (6 + 4 * (j : Int) + (B : Int)) ∧ B = blen (g.sl.take j) ∧ NatsAt wr ak g.slots ∧ Sl wr (.slice ap 504 cp) g.enc ∧ Below w.heap.size w wr) (fun i _ _ => L - (intOf i).toNat)
  case atStart => exact ⟨0, 0, Nat.zero_le _, rfl, by go_num, by simp [blen], HNA.out, HP1.out, HB1.out⟩
  case round =>
    obtain ⟨j, B, hj, rfl, rfl, hB, hna, hp, hb⟩ := hrel
    have HNX := hide hna
    have HPX := hide hp
    have HBX := hide hb
    have HBE := hide hB
    have hBb : B ≤ 1000 := by rw [hB]; exact HBT.out j
    clear hna hp hb hB HNA HP1 HB1
    by_cases hlt : j < L
    · obtain ⟨d, hd⟩ := full_at HF.out (j := j) (by omega)
      obtain ⟨gk, ok, rfl, kcell⟩ := HNX.out j (by rw [HSL.out]; exact hlt)
      rw [full_get HF.out (by omega)] at kcell
      have HY := hide (get_ok HG.out HPX.out hd)
      have HBN : Hid (blen (g.sl.take (j + 1)) = blen (g.sl.take j) + d.length) := by rw [Hid, blen_take_succ (by omega), hd]; rfl
      have hdl : d.length ≤ 1000 := by have := HBT.out (j + 1); have := HBN.out; omega
      clear hd hLL
      generalize hD : d.length = D at *
      go_wp2_with (go_at_call 15; refine HY.out.mono ?_; rintro e W2 ⟨ax, cx, rfl, hs2, hb2⟩)
      go_roundw
      case rel =>
        refine ⟨j + 1, B + D, by omega, by go_num, ?_, by rw [HBN.out, HBE.out], HNX.out.below hb2, HPX.out.belowW hb2, HBX.out.trans (hb2.mono HBX.out.size)⟩
        congr 1
        omega
      case measure => simp [intOf]; omega
    · have hjL : j = L := by omega
      subst hjL
      have HE : Hid (g.size = 6 + 4 * j + B) := by rw [Hid, HGS.out, HBE.out]
      by_cases hr : 6 + 4 * j + B + 4 ≤ 504
      · have hr' : (6 : Int) + 4 * (j : Int) + (B : Int) + 4 ≤ 504 := by omega
        have HR := hide hr
        clear HBE hsz hr
        go_wp2
        go_ret
        exact ⟨congrArg (fun b => Ending.returned (Value.bool b)) (decide_eq_true (by have := HE.out; have := HR.out; omega)).symm, HBX.out⟩
      · have hr' : ¬ ((6 : Int) + 4 * (j : Int) + (B : Int) + 4 ≤ 504) := by omega
        have HR := hide hr
        clear HBE hsz hr
        go_wp2
        go_ret
        exact ⟨congrArg (fun b => Ending.returned (Value.bool b)) (decide_eq_false (by have := HE.out; have := HR.out; omega)).symm, HBX.out⟩
set_option maxHeartbeats 8000000 in
set_option maxRecDepth 100000 in
theorem room_walk (a0 : Option Addr) (len0 cap0 : Nat) (B0 : Nat → List UInt8) (a1 : Option Addr) (len1 cap1 : Nat) (data : List UInt8) (w : World) (h0 : RowsIn w a0 len0 B0) (h1 : Sl w (.slice a1 len1 cap1) data) :
    Calls Try.prog 7 #[.slice a0 len0 cap0, .slice a1 len1 cap1] w fun e w' => e = .returned (.bool true) ∧ Below w.heap.size w w' := by
  obtain ⟨a1', c1', he, hcc1, hcc2⟩ := h1.len
  injection he with he1 he2 he3
  subst he1 he2 he3
  simp only [maxLen] at hcc2
  have H0 := hide h0
  have HDA := hide h1
  have hl0 := h0.1
  clear h0 h1
  have HN := hide (new_any w)
  go_enter Try.func7, Try.ntmps7
  go_wp2_with (go_at_call 8; refine HN.out.mono ?_; rintro e W1 ⟨q1, rfl, hs1, hb1⟩)
  have HS1 := hide hs1
  have HB1 := hide hb1
  clear HN hs1 hb1
  go_loopw [6, 5] (fun i p wr => ∃ (k : Nat) (g : Pg) (ap : Option Addr) (cp : Nat), k ≤ len0 ∧ i = .int .i64 (k : Int) ∧ p = .slice ap 504 cp ∧ Good g ∧ Full g ∧ Sl wr (.slice ap 504 cp) g.enc ∧ Below w.heap.size w wr) (fun i _ _ => len0 - (intOf i).toNat)
  case atStart => exact ⟨0, Pg.zero, _, _, Nat.zero_le _, rfl, rfl, zero_good, full_zero, HS1.out, HB1.out⟩
  case round =>
    obtain ⟨k, g, ap, cp, hk, rfl, rfl, hg, hfu, hp, hb⟩ := hrel
    have HG := hide hg
    have HFU := hide hfu
    have HP := hide hp
    have HB := hide hb
    clear hg hfu hp hb HS1 HB1
    by_cases hlt : k < len0
    · by_cases h15 : k < 30
      · obtain ⟨b, o, ai, ci, rfl, hcell, hsl, hbl⟩ := rows_in H0.out HB.out k hlt
        have HD := hide hsl
        clear hsl
        by_cases hc : g.can (B0 k)
        · have HGP := hide (can_good HG.out hc)
          have HFP := hide (full_put HFU.out (B0 k))
          have HX := hide (put_ok HG.out HP.out HD.out hc)
          clear hc
          generalize hD : (B0 k).length = D at *
          generalize g.least = le at *
          go_wp2_with (go_at_call 9; refine HX.out.mono ?_; rintro e W3 ⟨ax, cx, rfl, hs3, hb3⟩)
          go_roundw
          case rel => exact ⟨k + 1, g.put (B0 k), _, _, by omega, by go_num, rfl, HGP.out, HFP.out, hs3, HB.out.trans (hb3.mono HB.out.size)⟩
          case measure => simp [intOf]; omega
        · have HX := hide (put_no HG.out HP.out HD.out hc)
          have hne := err_ne g (B0 k)
          clear hc
          generalize g.err (B0 k) = er at *
          generalize hD : (B0 k).length = D at *
          go_wp2_with (go_at_call 9; refine HX.out.mono ?_; rintro e W3 ⟨rfl, hb3⟩)
          go_roundw
          case rel => exact ⟨k + 1, g, _, _, by omega, by go_num, rfl, HG.out, HFU.out, HP.out.belowW hb3, HB.out.trans (hb3.mono HB.out.size)⟩
          case measure => simp [intOf]; omega
      · have hx1 : (k : Int) < (len0 : Int) := by omega
        have hx2 : ¬ ((k : Int) < 30) := by omega
        have HSLO : Hid (∀ W, Sl W (.slice ap 504 cp) g.enc → Calls Try.prog 14 #[.slice ap 504 cp] W fun e w' => ∃ ao c, e = .returned (.slice ao g.sl.length c) ∧ w'.ownsRow W.heap.size 3 1 (.slice ao g.sl.length c) g.sl.length (natCells g.slots) ∧ Below W.heap.size W w') := fun W h => by have := slots_ok HG.out h; rw [full_len HFU.out] at this; exact this
        have HSL := hide (full_len HFU.out)
        have hL200 : g.sl.length ≤ 200 := by have := HG.out.size; simp only [Pg.size, tsize] at this; omega
        go_upto_region 8 with fail
        generalize hLL : g.sl.length = L at *
        rcases Nat.eq_zero_or_pos L with hL0 | hLpos
        · subst hL0
          refine wp_region_held_drew (S := fun w' => Sl w' (.slice ap 504 cp) g.enc) (by kernel_rfl) (HP.out.belowW (below_drewN _ _ 1)) (fun hH => ?_)
          refine take_to 0 43 (.slice ap 504 cp) rfl (by kernel_rfl) (by kernel_rfl) (by kernel_rfl) (fun _ _ _ h => h) rfl (by rfl) (fun w hw => by rfl) hH ?_
          simp only [Act.put, List.setIfInBounds_toArray, List.set_cons_zero, List.set_cons_succ]
          refine step_call1_to 1 44 14 rfl (by kernel_rfl) rfl (by rfl) (.tmp 43) _ rfl _ rfl Try.enters14 (HSLO.out _ hH) ?_
          rintro e Y1 ⟨ak1, ck1, rfl, hown1, hy1⟩
          have hp1 : Sl Y1 (.slice ap 504 cp) g.enc := hH.belowW hy1
          refine ⟨_, rfl, hp1, ?_⟩
          simp only [Act.put, List.setIfInBounds_toArray, List.set_cons_zero, List.set_cons_succ]
          refine step_to 2 45 (.int .i64 (0 : Int)) Y1 rfl (by kernel_rfl) rfl (by rfl) (op_len _ _ (.tmp 44) 31 3 Try.underlying31 rfl _ _ _ rfl) hp1 ?_
          simp only [Act.put, List.setIfInBounds_toArray, List.set_cons_zero, List.set_cons_succ]
          refine step_to 3 46 (.bool true) Y1 rfl (by kernel_rfl) rfl (by rfl) (op_eql3 _ _ (.tmp 45) (.const (.int .i64 0)) 3 rfl _ _ rfl rfl true rfl) hp1 ?_
          simp only [Act.put, List.setIfInBounds_toArray, List.set_cons_zero, List.set_cons_succ]
          refine step_to 4 47 (.bool true) Y1 rfl (by kernel_rfl) rfl (by rfl) (rfl) hp1 ?_
          simp only [Act.put, List.setIfInBounds_toArray, List.set_cons_zero, List.set_cons_succ]
          refine skip_to 5 48 rfl (by kernel_rfl) (by kernel_rfl) (by kernel_rfl) (fun _ _ _ h => h) rfl (by rfl) hp1 ?_
          simp only [Act.put, List.setIfInBounds_toArray, List.set_cons_zero, List.set_cons_succ]
          refine skip_to 6 49 rfl (by kernel_rfl) (by kernel_rfl) (by kernel_rfl) (fun _ _ _ h => h) rfl (by rfl) hp1 ?_
          simp only [Act.put, List.setIfInBounds_toArray, List.set_cons_zero, List.set_cons_succ]
          refine skip_to 7 50 rfl (by kernel_rfl) (by kernel_rfl) (by kernel_rfl) (fun _ _ _ h => h) rfl (by rfl) hp1 ?_
          simp only [Act.put, List.setIfInBounds_toArray, List.set_cons_zero, List.set_cons_succ]
          refine skip_to 8 51 rfl (by kernel_rfl) (by kernel_rfl) (by kernel_rfl) (fun _ _ _ h => h) rfl (by rfl) hp1 ?_
          simp only [Act.put, List.setIfInBounds_toArray, List.set_cons_zero, List.set_cons_succ]
          refine skip_to 9 52 rfl (by kernel_rfl) (by kernel_rfl) (by kernel_rfl) (fun _ _ _ h => h) rfl (by rfl) hp1 ?_
          simp only [Act.put, List.setIfInBounds_toArray, List.set_cons_zero, List.set_cons_succ]
          refine skip_to 10 53 rfl (by kernel_rfl) (by kernel_rfl) (by kernel_rfl) (fun _ _ _ h => h) rfl (by rfl) hp1 ?_
          simp only [Act.put, List.setIfInBounds_toArray, List.set_cons_zero, List.set_cons_succ]
          refine skip_to 11 54 rfl (by kernel_rfl) (by kernel_rfl) (by kernel_rfl) (fun _ _ _ h => h) rfl (by rfl) hp1 ?_
          simp only [Act.put, List.setIfInBounds_toArray, List.set_cons_zero, List.set_cons_succ]
          refine skip_to 12 55 rfl (by kernel_rfl) (by kernel_rfl) (by kernel_rfl) (fun _ _ _ h => h) rfl (by rfl) hp1 ?_
          simp only [Act.put, List.setIfInBounds_toArray, List.set_cons_zero, List.set_cons_succ]
          refine skip_to 13 56 rfl (by kernel_rfl) (by kernel_rfl) (by kernel_rfl) (fun _ _ _ h => h) rfl (by rfl) hp1 ?_
          simp only [Act.put, List.setIfInBounds_toArray, List.set_cons_zero, List.set_cons_succ]
          refine skip_to 14 57 rfl (by kernel_rfl) (by kernel_rfl) (by kernel_rfl) (fun _ _ _ h => h) rfl (by rfl) hp1 ?_
          simp only [Act.put, List.setIfInBounds_toArray, List.set_cons_zero, List.set_cons_succ]
          refine skip_to 15 58 rfl (by kernel_rfl) (by kernel_rfl) (by kernel_rfl) (fun _ _ _ h => h) rfl (by rfl) hp1 ?_
          simp only [Act.put, List.setIfInBounds_toArray, List.set_cons_zero, List.set_cons_succ]
          refine skip_to 16 59 rfl (by kernel_rfl) (by kernel_rfl) (by kernel_rfl) (fun _ _ _ h => h) rfl (by rfl) hp1 ?_
          simp only [Act.put, List.setIfInBounds_toArray, List.set_cons_zero, List.set_cons_succ]
          refine skip_to 17 60 rfl (by kernel_rfl) (by kernel_rfl) (by kernel_rfl) (fun _ _ _ h => h) rfl (by rfl) hp1 ?_
          simp only [Act.put, List.setIfInBounds_toArray, List.set_cons_zero, List.set_cons_succ]
          refine step_to 18 61 (.bool true) Y1 rfl (by kernel_rfl) rfl (by rfl) (rfl) hp1 ?_
          simp only [Act.put, List.setIfInBounds_toArray, List.set_cons_zero, List.set_cons_succ]
          refine step_to 19 10 (.bool true) Y1 rfl (by kernel_rfl) rfl (by rfl) (rfl) hp1 ?_
          simp only [Act.put, List.setIfInBounds_toArray, List.set_cons_zero, List.set_cons_succ]
          refine wpAnyH_done (by kernel_rfl) ?_ _
          have HPE := hide hp1
          have HBE := hide ((HB.out.trans (below_drewN _ _ 1)).trans (hy1.mono (by show _ ≤ wr.heap.size; exact HB.out.size)))
          clear hp1 hy1 hown1 hH
          generalize Y1 = WE at *
          have HFR := hide (free_ok HG.out HPE.out)
          go_wp2_with fail
          refine HFR.out.mono ?_
          rintro e X1 ⟨rfl, hx1⟩
          have HP1 := hide (HPE.out.belowW hx1)
          have HB1 := hide (HBE.out.trans (hx1.mono HBE.out.size))
          have HD1 := hide (HDA.out.belowW (HB1.out))
          clear HFR hx1 HPE HBE
          by_cases hc : g.can data
          · have HX := hide (put_ok HG.out HP1.out HD1.out hc)
            have HGP := hide (can_good HG.out hc)
            have hts := full_size HFU.out data
            have hc1 := hc.1
            have hc2 := hc.2
            rw [hts] at hc2
            have HRM0 := hide (fun W (h : Sl W (.slice ap 504 cp) g.enc) => roomy_any HG.out HFU.out h)
            have hrt : decide (g.size + 4 ≤ 504) = true := decide_eq_true (by omega)
            rw [hrt] at HRM0
            have hfr : data.length ≤ g.free := by unfold Pg.free; omega
            have hdl480 : ((data.length : Nat) : Int) ≤ 480 := by omega
            have hfrI : ((data.length : Nat) : Int) ≤ ((g.free : Nat) : Int) := by omega
            have hgl : g.size = 6 + 4 * 0 + blen g.sl := by unfold Pg.size tsize; rw [hLL]
            have h4I : 6 + 4 * ((0 : Nat) : Int) + 4 ≤ 504 := by omega
            have hat : (g.put data).sl.getD g.least none = some data := at_put (g := g) data
            have HDP := hide (del_put HG.out data)
            have HAT := hide hat
            clear hc hts hc2 hrt hfr hat hgl
            generalize g.least = le at *
            generalize hDD : data.length = D at *
            generalize g.free = fr at *
            go_wp2_with fail
            refine HX.out.mono ?_
            rintro e X2 ⟨aq, cq, rfl, hq2, hx2⟩
            have HQ2 := hide hq2
            have HP2 := hide (HP1.out.belowW hx2)
            have HB2 := hide (HB1.out.trans (hx2.mono HB1.out.size))
            have HS2 := hide (HSLO.out _ HP2.out)
            clear HX hq2 hx2 HP1 HB1 HD1
            go_wp2_with fail
            refine HS2.out.mono ?_
            rintro e X3 ⟨ak3, ck3, rfl, _, hx3⟩
            have HQ3 := hide (HQ2.out.belowW hx3)
            have HP3 := hide (HP2.out.belowW hx3)
            have HB3 := hide (HB2.out.trans (hx3.mono HB2.out.size))
            have HR3 := hide (HRM0.out _ HP3.out)
            clear HS2 hx3 HQ2 HP2 HB2
            go_wp2_with fail
            refine HR3.out.mono ?_
            rintro e X4 ⟨rfl, hx4⟩
            have HQ4 := hide (HQ3.out.belowW hx4)
            have HP4 := hide (HP3.out.belowW hx4)
            have HB4 := hide (HB3.out.trans (hx4.mono HB3.out.size))
            have HG4 := hide (get_ok HGP.out HQ4.out HAT.out)
            rw [hDD] at HG4
            clear HR3 hx4 HQ3 HP3 HB3
            go_wp2_with fail
            refine HG4.out.mono ?_
            rintro e X5 ⟨ax, cx, rfl, hx5s, hx5⟩
            have HQ5 := hide (HQ4.out.belowW hx5)
            have HP5 := hide (HP4.out.belowW hx5)
            have HB5 := hide (HB4.out.trans (hx5.mono HB4.out.size))
            have HX5 := hide hx5s
            have HD5 := hide (del_ok HGP.out HQ5.out HAT.out)
            rw [HDP.out] at HD5
            clear HG4 hx5 HQ4 HP4 HB4 hx5s
            go_wp2_with fail
            refine HD5.out.mono ?_
            rintro e X6 ⟨ar, cr, rfl, hr6, hx6⟩
            have cv1 := run_str (HX5.out.belowW hx6)
            have cv2 := run_str (HDA.out.belowW (HB5.out.trans (hx6.mono HB5.out.size)))
            have cv3 := run_str hr6
            have cv4 := run_str (HP5.out.belowW hx6)
            have HB6 := hide (HB5.out.trans (hx6.mono HB5.out.size))
            have HA6 := hide (awake_any X6)
            generalize strOf data = sd at *
            generalize strOf g.enc = sg at *
            clear HD5 hx6 hr6
            go_wp2_with (go_at_call 17; refine HA6.out.mono ?_; rintro e X7 ⟨rfl, hx7⟩)
            go_ret
            exact ⟨rfl, HB6.out.trans (hx7.mono HB6.out.size)⟩
          · have HX := hide (put_no HG.out HP1.out HD1.out hc)
            have hne := err_ne g data
            have hts := full_size HFU.out data
            have hcc : data.length ≤ 480 → 504 < g.size + 4 + data.length := fun h1 => Classical.byContradiction fun h2 => hc ⟨h1, by rw [hts]; omega⟩
            have HRM0 := hide (fun W (h : Sl W (.slice ap 504 cp) g.enc) => roomy_any HG.out HFU.out h)
            have hfre : g.free = min (504 - 4 - g.size) 480 := rfl
            have HCC : Hid (data.length ≤ 480 → data.length ≤ g.free → ¬ (g.size + 4 ≤ 504)) := fun h1 h2 => by have := hcc h1; omega
            clear hc hts hcc hfre
            generalize g.err data = er at *
            generalize hDD : data.length = D at *
            generalize g.free = fr at *
            by_cases h480 : D ≤ 480
            · have h480I : (D : Int) ≤ 480 := by omega
              by_cases h4 : 6 + 4 * 0 + 4 ≤ 504
              · have h4I : 6 + 4 * ((0 : Nat) : Int) + 4 ≤ 504 := by omega
                go_wp2_with fail
                refine HX.out.mono ?_
                rintro e X2 ⟨rfl, hx2⟩
                have HP2 := hide (HP1.out.belowW hx2)
                have HB2 := hide (HB1.out.trans (hx2.mono HB1.out.size))
                have HS2 := hide (HSLO.out _ HP2.out)
                clear HX hx2 HP1 HB1 HD1
                by_cases hfr : D ≤ fr
                · have hfrI : (D : Int) ≤ (fr : Int) := by omega
                  have hrt : decide (g.size + 4 ≤ 504) = false := decide_eq_false (HCC.out h480 hfr)
                  rw [hrt] at HRM0
                  go_wp2_with fail
                  refine HS2.out.mono ?_
                  rintro e X3 ⟨ak3, ck3, rfl, _, hx3⟩
                  have HP3 := hide (HP2.out.belowW hx3)
                  have HB3 := hide (HB2.out.trans (hx3.mono HB2.out.size))
                  have HR3 := hide (HRM0.out _ HP3.out)
                  clear HS2 hx3 HP2 HB2 hrt
                  go_wp2_with fail
                  refine HR3.out.mono ?_
                  rintro e X4 ⟨rfl, hx4⟩
                  have HB4 := hide (HB3.out.trans (hx4.mono HB3.out.size))
                  have HA4 := hide (awake_any X4)
                  clear HR3 hx4
                  go_wp2_with (go_at_call 17; refine HA4.out.mono ?_; rintro e X5 ⟨rfl, hx5⟩)
                  go_ret
                  exact ⟨rfl, HB4.out.trans (hx5.mono HB4.out.size)⟩
                · have hfrI : ¬ ((D : Int) ≤ (fr : Int)) := by omega
                  go_wp2_with fail
                  refine HS2.out.mono ?_
                  rintro e X3 ⟨ak3, ck3, rfl, _, hx3⟩
                  have HB3 := hide (HB2.out.trans (hx3.mono HB2.out.size))
                  have HA3 := hide (awake_any X3)
                  clear HS2 hx3
                  go_wp2_with (go_at_call 17; refine HA3.out.mono ?_; rintro e X5 ⟨rfl, hx5⟩)
                  go_ret
                  exact ⟨rfl, HB3.out.trans (hx5.mono HB3.out.size)⟩
              · omega
            · have h480I : ¬ ((D : Int) ≤ 480) := by omega
              go_wp2_with fail
              refine HX.out.mono ?_
              rintro e X2 ⟨rfl, hx2⟩
              have HB2 := hide (HB1.out.trans (hx2.mono HB1.out.size))
              have HA2 := hide (awake_any X2)
              clear HX hx2
              go_wp2_with (go_at_call 17; refine HA2.out.mono ?_; rintro e X5 ⟨rfl, hx5⟩)
              go_ret
              exact ⟨rfl, HB2.out.trans (hx5.mono HB2.out.size)⟩
        · have hLe : ((L : Int) == 0) = false := by rw [beq_eq_false_iff_ne]; omega
          have hLs : IntKind.i64.wrap ((L : Int) - 1) = ((L - 1 : Nat) : Int) := wrapN (by omega) (by omega)
          refine wp_region_held_drew (S := fun w' => Sl w' (.slice ap 504 cp) g.enc) (by kernel_rfl) (HP.out.belowW (below_drewN _ _ 1)) (fun hH => ?_)
          refine take_to 0 43 (.slice ap 504 cp) rfl (by kernel_rfl) (by kernel_rfl) (by kernel_rfl) (fun _ _ _ h => h) rfl (by rfl) (fun w hw => by rfl) hH ?_
          simp only [Act.put, List.setIfInBounds_toArray, List.set_cons_zero, List.set_cons_succ]
          refine step_call1_to 1 44 14 rfl (by kernel_rfl) rfl (by rfl) (.tmp 43) _ rfl _ rfl Try.enters14 (HSLO.out _ hH) ?_
          rintro e Y1 ⟨ak1, ck1, rfl, hown1, hy1⟩
          have hp1 : Sl Y1 (.slice ap 504 cp) g.enc := hH.belowW hy1
          refine ⟨_, rfl, hp1, ?_⟩
          simp only [Act.put, List.setIfInBounds_toArray, List.set_cons_zero, List.set_cons_succ]
          refine step_to 2 45 (.int .i64 (L : Int)) Y1 rfl (by kernel_rfl) rfl (by rfl) (op_len _ _ (.tmp 44) 31 3 Try.underlying31 rfl _ _ _ rfl) hp1 ?_
          simp only [Act.put, List.setIfInBounds_toArray, List.set_cons_zero, List.set_cons_succ]
          refine step_to 3 46 (.bool false) Y1 rfl (by kernel_rfl) rfl (by rfl) (op_eql3 _ _ (.tmp 45) (.const (.int .i64 0)) 3 rfl _ _ rfl rfl false hLe) hp1 ?_
          simp only [Act.put, List.setIfInBounds_toArray, List.set_cons_zero, List.set_cons_succ]
          refine step_to 4 47 (.bool false) Y1 rfl (by kernel_rfl) rfl (by rfl) (rfl) hp1 ?_
          simp only [Act.put, List.setIfInBounds_toArray, List.set_cons_zero, List.set_cons_succ]
          refine take_to 5 48 (.slice ap 504 cp) rfl (by kernel_rfl) (by kernel_rfl) (by kernel_rfl) (fun _ _ _ h => h) rfl (by rfl) (fun w hw => by rfl) hp1 ?_
          simp only [Act.put, List.setIfInBounds_toArray, List.set_cons_zero, List.set_cons_succ]
          refine take_to 7 50 (.slice ap 504 cp) rfl (by kernel_rfl) (by kernel_rfl) (by kernel_rfl) (fun _ _ _ h => h) rfl (by rfl) (fun w hw => by rfl) hp1 ?_
          simp only [Act.put, List.setIfInBounds_toArray, List.set_cons_zero, List.set_cons_succ]
          refine take_to 13 56 (.slice ap 504 cp) rfl (by kernel_rfl) (by kernel_rfl) (by kernel_rfl) (fun _ _ _ h => h) rfl (by rfl) (fun w hw => by rfl) hp1 ?_
          simp only [Act.put, List.setIfInBounds_toArray, List.set_cons_zero, List.set_cons_succ]
          refine step_call1_to 6 49 14 rfl (by kernel_rfl) rfl (by rfl) (.tmp 48) _ rfl _ rfl Try.enters14 (HSLO.out _ hp1) ?_
          rintro e Y2 ⟨ak, ck, rfl, hown2, hy2⟩
          have hp2 : Sl Y2 (.slice ap 504 cp) g.enc := hp1.belowW hy2
          obtain ⟨gk, ok, rfl, kc2⟩ := nats_of (by rw [HSL.out]; exact hown2) (L - 1) (by rw [HSL.out]; omega)
          rw [full_get HFU.out (by omega)] at kc2
          refine ⟨_, rfl, hp2, ?_⟩
          simp only [Act.put, List.setIfInBounds_toArray, List.set_cons_zero, List.set_cons_succ]
          refine step_call1_to 8 51 14 rfl (by kernel_rfl) rfl (by rfl) (.tmp 50) _ rfl _ rfl Try.enters14 (HSLO.out _ hp2) ?_
          rintro e Y3 ⟨ak3, ck3, rfl, hown3, hy3⟩
          have hp3 : Sl Y3 (.slice ap 504 cp) g.enc := hp2.belowW hy3
          have kc3 := (hy3.cell (World.block_lt_of_cell? Y2 _ kc2)).trans kc2
          refine ⟨_, rfl, hp3, ?_⟩
          simp only [Act.put, List.setIfInBounds_toArray, List.set_cons_zero, List.set_cons_succ]
          refine take_to 9 52 (.int .i64 (L : Int)) rfl (by kernel_rfl) (by kernel_rfl) (by kernel_rfl) (fun _ _ _ h => h) rfl (by rfl) (fun w hw => op_len _ _ (.tmp 51) 31 3 Try.underlying31 rfl _ _ _ rfl) hp3 ?_
          simp only [Act.put, List.setIfInBounds_toArray, List.set_cons_zero, List.set_cons_succ]
          refine take_to 10 53 (.int .i64 ((L - 1 : Nat) : Int)) rfl (by kernel_rfl) (by kernel_rfl) (by kernel_rfl) (fun _ _ _ h => h) rfl (by rfl) (fun w hw => op_sub3 _ _ (.tmp 52) (.const (.int .i64 1)) 3 rfl _ _ rfl rfl _ hLs) hp3 ?_
          simp only [Act.put, List.setIfInBounds_toArray, List.set_cons_zero, List.set_cons_succ]
          refine take_to 11 54 (.pointer (some ⟨gk, ok + (L - 1), none⟩)) rfl (by kernel_rfl) (by kernel_rfl) (by kernel_rfl) (fun _ _ _ h => h) rfl (by rfl) (fun w' hw => op_index _ _ 31 (.tmp 49) (.tmp 53) rfl _ _ _ rfl rfl (run_index31 w' gk ok L ck (L - 1) (by omega))) hp3 ?_
          simp only [Act.put, List.setIfInBounds_toArray, List.set_cons_zero, List.set_cons_succ]
          refine wpAnyH_all (rs := [12, 14]) (by kernel_rfl) (by simp) ?_
          intro i hi
          simp only [List.mem_cons, List.not_mem_nil, or_false] at hi
          rcases hi with rfl | rfl
          · refine op_to 55 (.int .i64 ((L - 1 : Nat) : Int)) Y3 rfl rfl (by rfl) (op_load _ _ 3 (.tmp 54) rfl (.pointer (some ⟨gk, ok + (L - 1), none⟩)) _ rfl (run_loadAny Y3 gk (ok + (L - 1)) 3 _ Try.isAgg3 kc3)) ⟨hp3, ?_⟩
            simp only [Act.put, List.setIfInBounds_toArray, List.set_cons_zero, List.set_cons_succ]
            refine step_call1_to 14 57 14 rfl (by kernel_rfl) rfl (by rfl) (.tmp 56) _ rfl _ rfl Try.enters14 (HSLO.out _ hp3) ?_
            rintro e Y4 ⟨ak4, ck4, rfl, hown4, hy4⟩
            have hp4 : Sl Y4 (.slice ap 504 cp) g.enc := hp3.belowW hy4
            refine ⟨_, rfl, hp4, ?_⟩
            simp only [Act.put, List.setIfInBounds_toArray, List.set_cons_zero, List.set_cons_succ]
            refine take_to 15 58 (.int .i64 (L : Int)) rfl (by kernel_rfl) (by kernel_rfl) (by kernel_rfl) (fun _ _ _ h => h) rfl (by rfl) (fun w hw => op_len _ _ (.tmp 57) 31 3 Try.underlying31 rfl _ _ _ rfl) hp4 ?_
            simp only [Act.put, List.setIfInBounds_toArray, List.set_cons_zero, List.set_cons_succ]
            refine take_to 16 59 (.int .i64 ((L - 1 : Nat) : Int)) rfl (by kernel_rfl) (by kernel_rfl) (by kernel_rfl) (fun _ _ _ h => h) rfl (by rfl) (fun w hw => op_sub3 _ _ (.tmp 58) (.const (.int .i64 1)) 3 rfl _ _ rfl rfl _ hLs) hp4 ?_
            simp only [Act.put, List.setIfInBounds_toArray, List.set_cons_zero, List.set_cons_succ]
            refine step_to 17 60 (.bool true) Y4 rfl (by kernel_rfl) rfl (by rfl) (op_eql3 _ _ (.tmp 55) (.tmp 59) 3 rfl _ _ rfl rfl true (by simp)) hp4 ?_
            simp only [Act.put, List.setIfInBounds_toArray, List.set_cons_zero, List.set_cons_succ]
            refine step_to 18 61 (.bool true) Y4 rfl (by kernel_rfl) rfl (by rfl) (rfl) hp4 ?_
            simp only [Act.put, List.setIfInBounds_toArray, List.set_cons_zero, List.set_cons_succ]
            refine step_to 19 10 (.bool true) Y4 rfl (by kernel_rfl) rfl (by rfl) (rfl) hp4 ?_
            simp only [Act.put, List.setIfInBounds_toArray, List.set_cons_zero, List.set_cons_succ]
            clear hown4
            refine wpAnyH_done (by kernel_rfl) ?_ _
            have HPE := hide hp4
            have s1 : wr.heap.size ≤ Y1.heap.size := hy1.size
            have s2 := hy2.size
            have s3 := hy3.size
            have s0 := HB.out.size
            have HBE := hide (((((HB.out.trans (below_drewN _ _ 1)).trans (hy1.mono (show _ ≤ wr.heap.size by omega))).trans (hy2.mono (by omega))).trans (hy3.mono (by omega))).trans (hy4.mono (by omega)))
            clear hp1 hp2 hp3 hp4 hy1 hy2 hy3 hy4 hown1 hown2 hown3 kc2 kc3 hH s0 s1 s2 s3
            generalize Y4 = WE at *
            have HFR := hide (free_ok HG.out HPE.out)
            go_wp2_with fail
            refine HFR.out.mono ?_
            rintro e X1 ⟨rfl, hx1⟩
            have HP1 := hide (HPE.out.belowW hx1)
            have HB1 := hide (HBE.out.trans (hx1.mono HBE.out.size))
            have HD1 := hide (HDA.out.belowW (HB1.out))
            clear HFR hx1 HPE HBE
            by_cases hc : g.can data
            · have HX := hide (put_ok HG.out HP1.out HD1.out hc)
              have HGP := hide (can_good HG.out hc)
              have hts := full_size HFU.out data
              have hc1 := hc.1
              have hc2 := hc.2
              rw [hts] at hc2
              have HRM0 := hide (fun W (h : Sl W (.slice ap 504 cp) g.enc) => roomy_any HG.out HFU.out h)
              have hrt : decide (g.size + 4 ≤ 504) = true := decide_eq_true (by omega)
              rw [hrt] at HRM0
              have hfr : data.length ≤ g.free := by unfold Pg.free; omega
              have hdl480 : ((data.length : Nat) : Int) ≤ 480 := by omega
              have hfrI : ((data.length : Nat) : Int) ≤ ((g.free : Nat) : Int) := by omega
              have hgl : g.size = 6 + 4 * L + blen g.sl := by unfold Pg.size tsize; rw [hLL]
              have h4I : 6 + 4 * (L : Int) + 4 ≤ 504 := by omega
              have hat : (g.put data).sl.getD g.least none = some data := at_put (g := g) data
              have HDP := hide (del_put HG.out data)
              have HAT := hide hat
              clear hc hts hc2 hrt hfr hat hgl
              generalize g.least = le at *
              generalize hDD : data.length = D at *
              generalize g.free = fr at *
              go_wp2_with fail
              refine HX.out.mono ?_
              rintro e X2 ⟨aq, cq, rfl, hq2, hx2⟩
              have HQ2 := hide hq2
              have HP2 := hide (HP1.out.belowW hx2)
              have HB2 := hide (HB1.out.trans (hx2.mono HB1.out.size))
              have HS2 := hide (HSLO.out _ HP2.out)
              clear HX hq2 hx2 HP1 HB1 HD1
              go_wp2_with fail
              refine HS2.out.mono ?_
              rintro e X3 ⟨ak3, ck3, rfl, _, hx3⟩
              have HQ3 := hide (HQ2.out.belowW hx3)
              have HP3 := hide (HP2.out.belowW hx3)
              have HB3 := hide (HB2.out.trans (hx3.mono HB2.out.size))
              have HR3 := hide (HRM0.out _ HP3.out)
              clear HS2 hx3 HQ2 HP2 HB2
              go_wp2_with fail
              refine HR3.out.mono ?_
              rintro e X4 ⟨rfl, hx4⟩
              have HQ4 := hide (HQ3.out.belowW hx4)
              have HP4 := hide (HP3.out.belowW hx4)
              have HB4 := hide (HB3.out.trans (hx4.mono HB3.out.size))
              have HG4 := hide (get_ok HGP.out HQ4.out HAT.out)
              rw [hDD] at HG4
              clear HR3 hx4 HQ3 HP3 HB3
              go_wp2_with fail
              refine HG4.out.mono ?_
              rintro e X5 ⟨ax, cx, rfl, hx5s, hx5⟩
              have HQ5 := hide (HQ4.out.belowW hx5)
              have HP5 := hide (HP4.out.belowW hx5)
              have HB5 := hide (HB4.out.trans (hx5.mono HB4.out.size))
              have HX5 := hide hx5s
              have HD5 := hide (del_ok HGP.out HQ5.out HAT.out)
              rw [HDP.out] at HD5
              clear HG4 hx5 HQ4 HP4 HB4 hx5s
              go_wp2_with fail
              refine HD5.out.mono ?_
              rintro e X6 ⟨ar, cr, rfl, hr6, hx6⟩
              have cv1 := run_str (HX5.out.belowW hx6)
              have cv2 := run_str (HDA.out.belowW (HB5.out.trans (hx6.mono HB5.out.size)))
              have cv3 := run_str hr6
              have cv4 := run_str (HP5.out.belowW hx6)
              have HB6 := hide (HB5.out.trans (hx6.mono HB5.out.size))
              have HA6 := hide (awake_any X6)
              generalize strOf data = sd at *
              generalize strOf g.enc = sg at *
              clear HD5 hx6 hr6
              go_wp2_with (go_at_call 17; refine HA6.out.mono ?_; rintro e X7 ⟨rfl, hx7⟩)
              go_ret
              exact ⟨rfl, HB6.out.trans (hx7.mono HB6.out.size)⟩
            · have HX := hide (put_no HG.out HP1.out HD1.out hc)
              have hne := err_ne g data
              have hts := full_size HFU.out data
              have hcc : data.length ≤ 480 → 504 < g.size + 4 + data.length := fun h1 => Classical.byContradiction fun h2 => hc ⟨h1, by rw [hts]; omega⟩
              have HRM0 := hide (fun W (h : Sl W (.slice ap 504 cp) g.enc) => roomy_any HG.out HFU.out h)
              have hfre : g.free = min (504 - 4 - g.size) 480 := rfl
              have HCC : Hid (data.length ≤ 480 → data.length ≤ g.free → ¬ (g.size + 4 ≤ 504)) := fun h1 h2 => by have := hcc h1; omega
              clear hc hts hcc hfre
              generalize g.err data = er at *
              generalize hDD : data.length = D at *
              generalize g.free = fr at *
              by_cases h480 : D ≤ 480
              · have h480I : (D : Int) ≤ 480 := by omega
                by_cases h4 : 6 + 4 * L + 4 ≤ 504
                · have h4I : 6 + 4 * (L : Int) + 4 ≤ 504 := by omega
                  go_wp2_with fail
                  refine HX.out.mono ?_
                  rintro e X2 ⟨rfl, hx2⟩
                  have HP2 := hide (HP1.out.belowW hx2)
                  have HB2 := hide (HB1.out.trans (hx2.mono HB1.out.size))
                  have HS2 := hide (HSLO.out _ HP2.out)
                  clear HX hx2 HP1 HB1 HD1
                  by_cases hfr : D ≤ fr
                  · have hfrI : (D : Int) ≤ (fr : Int) := by omega
                    have hrt : decide (g.size + 4 ≤ 504) = false := decide_eq_false (HCC.out h480 hfr)
                    rw [hrt] at HRM0
                    go_wp2_with fail
                    refine HS2.out.mono ?_
                    rintro e X3 ⟨ak3, ck3, rfl, _, hx3⟩
                    have HP3 := hide (HP2.out.belowW hx3)
                    have HB3 := hide (HB2.out.trans (hx3.mono HB2.out.size))
                    have HR3 := hide (HRM0.out _ HP3.out)
                    clear HS2 hx3 HP2 HB2 hrt
                    go_wp2_with fail
                    refine HR3.out.mono ?_
                    rintro e X4 ⟨rfl, hx4⟩
                    have HB4 := hide (HB3.out.trans (hx4.mono HB3.out.size))
                    have HA4 := hide (awake_any X4)
                    clear HR3 hx4
                    go_wp2_with (go_at_call 17; refine HA4.out.mono ?_; rintro e X5 ⟨rfl, hx5⟩)
                    go_ret
                    exact ⟨rfl, HB4.out.trans (hx5.mono HB4.out.size)⟩
                  · have hfrI : ¬ ((D : Int) ≤ (fr : Int)) := by omega
                    go_wp2_with fail
                    refine HS2.out.mono ?_
                    rintro e X3 ⟨ak3, ck3, rfl, _, hx3⟩
                    have HB3 := hide (HB2.out.trans (hx3.mono HB2.out.size))
                    have HA3 := hide (awake_any X3)
                    clear HS2 hx3
                    go_wp2_with (go_at_call 17; refine HA3.out.mono ?_; rintro e X5 ⟨rfl, hx5⟩)
                    go_ret
                    exact ⟨rfl, HB3.out.trans (hx5.mono HB3.out.size)⟩
                · have h4I : ¬ (6 + 4 * (L : Int) + 4 ≤ 504) := by omega
                  go_wp2_with fail
                  refine HX.out.mono ?_
                  rintro e X2 ⟨rfl, hx2⟩
                  have HP2 := hide (HP1.out.belowW hx2)
                  have HB2 := hide (HB1.out.trans (hx2.mono HB1.out.size))
                  have HS2 := hide (HSLO.out _ HP2.out)
                  clear HX hx2 HP1 HB1 HD1
                  go_wp2_with fail
                  refine HS2.out.mono ?_
                  rintro e X3 ⟨ak3, ck3, rfl, _, hx3⟩
                  have HB3 := hide (HB2.out.trans (hx3.mono HB2.out.size))
                  have HA3 := hide (awake_any X3)
                  clear HS2 hx3
                  go_wp2_with (go_at_call 17; refine HA3.out.mono ?_; rintro e X5 ⟨rfl, hx5⟩)
                  go_ret
                  exact ⟨rfl, HB3.out.trans (hx5.mono HB3.out.size)⟩
              · have h480I : ¬ ((D : Int) ≤ 480) := by omega
                go_wp2_with fail
                refine HX.out.mono ?_
                rintro e X2 ⟨rfl, hx2⟩
                have HB2 := hide (HB1.out.trans (hx2.mono HB1.out.size))
                have HA2 := hide (awake_any X2)
                clear HX hx2
                go_wp2_with (go_at_call 17; refine HA2.out.mono ?_; rintro e X5 ⟨rfl, hx5⟩)
                go_ret
                exact ⟨rfl, HB2.out.trans (hx5.mono HB2.out.size)⟩
          · refine op_call1 57 14 rfl rfl (by rfl) (.tmp 56) _ rfl _ rfl Try.enters14 (HSLO.out _ hp3) ?_
            rintro e Y4 ⟨ak4, ck4, rfl, hown4, hy4⟩
            have hp4 : Sl Y4 (.slice ap 504 cp) g.enc := hp3.belowW hy4
            have kc4 := (hy4.cell (World.block_lt_of_cell? Y3 _ kc3)).trans kc3
            refine ⟨_, rfl, hp4, ?_⟩
            simp only [Act.put, List.setIfInBounds_toArray, List.set_cons_zero, List.set_cons_succ]
            refine take_to 15 58 (.int .i64 (L : Int)) rfl (by kernel_rfl) (by kernel_rfl) (by kernel_rfl) (fun _ _ _ h => h) rfl (by rfl) (fun w hw => op_len _ _ (.tmp 57) 31 3 Try.underlying31 rfl _ _ _ rfl) hp4 ?_
            simp only [Act.put, List.setIfInBounds_toArray, List.set_cons_zero, List.set_cons_succ]
            refine take_to 16 59 (.int .i64 ((L - 1 : Nat) : Int)) rfl (by kernel_rfl) (by kernel_rfl) (by kernel_rfl) (fun _ _ _ h => h) rfl (by rfl) (fun w hw => op_sub3 _ _ (.tmp 58) (.const (.int .i64 1)) 3 rfl _ _ rfl rfl _ hLs) hp4 ?_
            simp only [Act.put, List.setIfInBounds_toArray, List.set_cons_zero, List.set_cons_succ]
            refine step_to 12 55 (.int .i64 ((L - 1 : Nat) : Int)) Y4 rfl (by kernel_rfl) rfl (by rfl) (op_load _ _ 3 (.tmp 54) rfl (.pointer (some ⟨gk, ok + (L - 1), none⟩)) _ rfl (run_loadAny Y4 gk (ok + (L - 1)) 3 _ Try.isAgg3 kc4)) hp4 ?_
            simp only [Act.put, List.setIfInBounds_toArray, List.set_cons_zero, List.set_cons_succ]
            refine step_to 17 60 (.bool true) Y4 rfl (by kernel_rfl) rfl (by rfl) (op_eql3 _ _ (.tmp 55) (.tmp 59) 3 rfl _ _ rfl rfl true (by simp)) hp4 ?_
            simp only [Act.put, List.setIfInBounds_toArray, List.set_cons_zero, List.set_cons_succ]
            refine step_to 18 61 (.bool true) Y4 rfl (by kernel_rfl) rfl (by rfl) (rfl) hp4 ?_
            simp only [Act.put, List.setIfInBounds_toArray, List.set_cons_zero, List.set_cons_succ]
            refine step_to 19 10 (.bool true) Y4 rfl (by kernel_rfl) rfl (by rfl) (rfl) hp4 ?_
            simp only [Act.put, List.setIfInBounds_toArray, List.set_cons_zero, List.set_cons_succ]
            clear hown4 kc4
            refine wpAnyH_done (by kernel_rfl) ?_ _
            have HPE := hide hp4
            have s1 : wr.heap.size ≤ Y1.heap.size := hy1.size
            have s2 := hy2.size
            have s3 := hy3.size
            have s0 := HB.out.size
            have HBE := hide (((((HB.out.trans (below_drewN _ _ 1)).trans (hy1.mono (show _ ≤ wr.heap.size by omega))).trans (hy2.mono (by omega))).trans (hy3.mono (by omega))).trans (hy4.mono (by omega)))
            clear hp1 hp2 hp3 hp4 hy1 hy2 hy3 hy4 hown1 hown2 hown3 kc2 kc3 hH s0 s1 s2 s3
            generalize Y4 = WE at *
            have HFR := hide (free_ok HG.out HPE.out)
            go_wp2_with fail
            refine HFR.out.mono ?_
            rintro e X1 ⟨rfl, hx1⟩
            have HP1 := hide (HPE.out.belowW hx1)
            have HB1 := hide (HBE.out.trans (hx1.mono HBE.out.size))
            have HD1 := hide (HDA.out.belowW (HB1.out))
            clear HFR hx1 HPE HBE
            by_cases hc : g.can data
            · have HX := hide (put_ok HG.out HP1.out HD1.out hc)
              have HGP := hide (can_good HG.out hc)
              have hts := full_size HFU.out data
              have hc1 := hc.1
              have hc2 := hc.2
              rw [hts] at hc2
              have HRM0 := hide (fun W (h : Sl W (.slice ap 504 cp) g.enc) => roomy_any HG.out HFU.out h)
              have hrt : decide (g.size + 4 ≤ 504) = true := decide_eq_true (by omega)
              rw [hrt] at HRM0
              have hfr : data.length ≤ g.free := by unfold Pg.free; omega
              have hdl480 : ((data.length : Nat) : Int) ≤ 480 := by omega
              have hfrI : ((data.length : Nat) : Int) ≤ ((g.free : Nat) : Int) := by omega
              have hgl : g.size = 6 + 4 * L + blen g.sl := by unfold Pg.size tsize; rw [hLL]
              have h4I : 6 + 4 * (L : Int) + 4 ≤ 504 := by omega
              have hat : (g.put data).sl.getD g.least none = some data := at_put (g := g) data
              have HDP := hide (del_put HG.out data)
              have HAT := hide hat
              clear hc hts hc2 hrt hfr hat hgl
              generalize g.least = le at *
              generalize hDD : data.length = D at *
              generalize g.free = fr at *
              go_wp2_with fail
              refine HX.out.mono ?_
              rintro e X2 ⟨aq, cq, rfl, hq2, hx2⟩
              have HQ2 := hide hq2
              have HP2 := hide (HP1.out.belowW hx2)
              have HB2 := hide (HB1.out.trans (hx2.mono HB1.out.size))
              have HS2 := hide (HSLO.out _ HP2.out)
              clear HX hq2 hx2 HP1 HB1 HD1
              go_wp2_with fail
              refine HS2.out.mono ?_
              rintro e X3 ⟨ak3, ck3, rfl, _, hx3⟩
              have HQ3 := hide (HQ2.out.belowW hx3)
              have HP3 := hide (HP2.out.belowW hx3)
              have HB3 := hide (HB2.out.trans (hx3.mono HB2.out.size))
              have HR3 := hide (HRM0.out _ HP3.out)
              clear HS2 hx3 HQ2 HP2 HB2
              go_wp2_with fail
              refine HR3.out.mono ?_
              rintro e X4 ⟨rfl, hx4⟩
              have HQ4 := hide (HQ3.out.belowW hx4)
              have HP4 := hide (HP3.out.belowW hx4)
              have HB4 := hide (HB3.out.trans (hx4.mono HB3.out.size))
              have HG4 := hide (get_ok HGP.out HQ4.out HAT.out)
              rw [hDD] at HG4
              clear HR3 hx4 HQ3 HP3 HB3
              go_wp2_with fail
              refine HG4.out.mono ?_
              rintro e X5 ⟨ax, cx, rfl, hx5s, hx5⟩
              have HQ5 := hide (HQ4.out.belowW hx5)
              have HP5 := hide (HP4.out.belowW hx5)
              have HB5 := hide (HB4.out.trans (hx5.mono HB4.out.size))
              have HX5 := hide hx5s
              have HD5 := hide (del_ok HGP.out HQ5.out HAT.out)
              rw [HDP.out] at HD5
              clear HG4 hx5 HQ4 HP4 HB4 hx5s
              go_wp2_with fail
              refine HD5.out.mono ?_
              rintro e X6 ⟨ar, cr, rfl, hr6, hx6⟩
              have cv1 := run_str (HX5.out.belowW hx6)
              have cv2 := run_str (HDA.out.belowW (HB5.out.trans (hx6.mono HB5.out.size)))
              have cv3 := run_str hr6
              have cv4 := run_str (HP5.out.belowW hx6)
              have HB6 := hide (HB5.out.trans (hx6.mono HB5.out.size))
              have HA6 := hide (awake_any X6)
              generalize strOf data = sd at *
              generalize strOf g.enc = sg at *
              clear HD5 hx6 hr6
              go_wp2_with (go_at_call 17; refine HA6.out.mono ?_; rintro e X7 ⟨rfl, hx7⟩)
              go_ret
              exact ⟨rfl, HB6.out.trans (hx7.mono HB6.out.size)⟩
            · have HX := hide (put_no HG.out HP1.out HD1.out hc)
              have hne := err_ne g data
              have hts := full_size HFU.out data
              have hcc : data.length ≤ 480 → 504 < g.size + 4 + data.length := fun h1 => Classical.byContradiction fun h2 => hc ⟨h1, by rw [hts]; omega⟩
              have HRM0 := hide (fun W (h : Sl W (.slice ap 504 cp) g.enc) => roomy_any HG.out HFU.out h)
              have hfre : g.free = min (504 - 4 - g.size) 480 := rfl
              have HCC : Hid (data.length ≤ 480 → data.length ≤ g.free → ¬ (g.size + 4 ≤ 504)) := fun h1 h2 => by have := hcc h1; omega
              clear hc hts hcc hfre
              generalize g.err data = er at *
              generalize hDD : data.length = D at *
              generalize g.free = fr at *
              by_cases h480 : D ≤ 480
              · have h480I : (D : Int) ≤ 480 := by omega
                by_cases h4 : 6 + 4 * L + 4 ≤ 504
                · have h4I : 6 + 4 * (L : Int) + 4 ≤ 504 := by omega
                  go_wp2_with fail
                  refine HX.out.mono ?_
                  rintro e X2 ⟨rfl, hx2⟩
                  have HP2 := hide (HP1.out.belowW hx2)
                  have HB2 := hide (HB1.out.trans (hx2.mono HB1.out.size))
                  have HS2 := hide (HSLO.out _ HP2.out)
                  clear HX hx2 HP1 HB1 HD1
                  by_cases hfr : D ≤ fr
                  · have hfrI : (D : Int) ≤ (fr : Int) := by omega
                    have hrt : decide (g.size + 4 ≤ 504) = false := decide_eq_false (HCC.out h480 hfr)
                    rw [hrt] at HRM0
                    go_wp2_with fail
                    refine HS2.out.mono ?_
                    rintro e X3 ⟨ak3, ck3, rfl, _, hx3⟩
                    have HP3 := hide (HP2.out.belowW hx3)
                    have HB3 := hide (HB2.out.trans (hx3.mono HB2.out.size))
                    have HR3 := hide (HRM0.out _ HP3.out)
                    clear HS2 hx3 HP2 HB2 hrt
                    go_wp2_with fail
                    refine HR3.out.mono ?_
                    rintro e X4 ⟨rfl, hx4⟩
                    have HB4 := hide (HB3.out.trans (hx4.mono HB3.out.size))
                    have HA4 := hide (awake_any X4)
                    clear HR3 hx4
                    go_wp2_with (go_at_call 17; refine HA4.out.mono ?_; rintro e X5 ⟨rfl, hx5⟩)
                    go_ret
                    exact ⟨rfl, HB4.out.trans (hx5.mono HB4.out.size)⟩
                  · have hfrI : ¬ ((D : Int) ≤ (fr : Int)) := by omega
                    go_wp2_with fail
                    refine HS2.out.mono ?_
                    rintro e X3 ⟨ak3, ck3, rfl, _, hx3⟩
                    have HB3 := hide (HB2.out.trans (hx3.mono HB2.out.size))
                    have HA3 := hide (awake_any X3)
                    clear HS2 hx3
                    go_wp2_with (go_at_call 17; refine HA3.out.mono ?_; rintro e X5 ⟨rfl, hx5⟩)
                    go_ret
                    exact ⟨rfl, HB3.out.trans (hx5.mono HB3.out.size)⟩
                · have h4I : ¬ (6 + 4 * (L : Int) + 4 ≤ 504) := by omega
                  go_wp2_with fail
                  refine HX.out.mono ?_
                  rintro e X2 ⟨rfl, hx2⟩
                  have HP2 := hide (HP1.out.belowW hx2)
                  have HB2 := hide (HB1.out.trans (hx2.mono HB1.out.size))
                  have HS2 := hide (HSLO.out _ HP2.out)
                  clear HX hx2 HP1 HB1 HD1
                  go_wp2_with fail
                  refine HS2.out.mono ?_
                  rintro e X3 ⟨ak3, ck3, rfl, _, hx3⟩
                  have HB3 := hide (HB2.out.trans (hx3.mono HB2.out.size))
                  have HA3 := hide (awake_any X3)
                  clear HS2 hx3
                  go_wp2_with (go_at_call 17; refine HA3.out.mono ?_; rintro e X5 ⟨rfl, hx5⟩)
                  go_ret
                  exact ⟨rfl, HB3.out.trans (hx5.mono HB3.out.size)⟩
              · have h480I : ¬ ((D : Int) ≤ 480) := by omega
                go_wp2_with fail
                refine HX.out.mono ?_
                rintro e X2 ⟨rfl, hx2⟩
                have HB2 := hide (HB1.out.trans (hx2.mono HB1.out.size))
                have HA2 := hide (awake_any X2)
                clear HX hx2
                go_wp2_with (go_at_call 17; refine HA2.out.mono ?_; rintro e X5 ⟨rfl, hx5⟩)
                go_ret
                exact ⟨rfl, HB2.out.trans (hx5.mono HB2.out.size)⟩
    · have hkl : k = len0 := by omega
      subst hkl
      have HSLO : Hid (∀ W, Sl W (.slice ap 504 cp) g.enc → Calls Try.prog 14 #[.slice ap 504 cp] W fun e w' => ∃ ao c, e = .returned (.slice ao g.sl.length c) ∧ w'.ownsRow W.heap.size 3 1 (.slice ao g.sl.length c) g.sl.length (natCells g.slots) ∧ Below W.heap.size W w') := fun W h => by have := slots_ok HG.out h; rw [full_len HFU.out] at this; exact this
      have HSL := hide (full_len HFU.out)
      have hL200 : g.sl.length ≤ 200 := by have := HG.out.size; simp only [Pg.size, tsize] at this; omega
      go_upto_region 8 with fail
      generalize hLL : g.sl.length = L at *
      rcases Nat.eq_zero_or_pos L with hL0 | hLpos
      · subst hL0
        refine wp_region_held_drew (S := fun w' => Sl w' (.slice ap 504 cp) g.enc) (by kernel_rfl) (HP.out.belowW (below_drewN _ _ 1)) (fun hH => ?_)
        refine take_to 0 43 (.slice ap 504 cp) rfl (by kernel_rfl) (by kernel_rfl) (by kernel_rfl) (fun _ _ _ h => h) rfl (by rfl) (fun w hw => by rfl) hH ?_
        simp only [Act.put, List.setIfInBounds_toArray, List.set_cons_zero, List.set_cons_succ]
        refine step_call1_to 1 44 14 rfl (by kernel_rfl) rfl (by rfl) (.tmp 43) _ rfl _ rfl Try.enters14 (HSLO.out _ hH) ?_
        rintro e Y1 ⟨ak1, ck1, rfl, hown1, hy1⟩
        have hp1 : Sl Y1 (.slice ap 504 cp) g.enc := hH.belowW hy1
        refine ⟨_, rfl, hp1, ?_⟩
        simp only [Act.put, List.setIfInBounds_toArray, List.set_cons_zero, List.set_cons_succ]
        refine step_to 2 45 (.int .i64 (0 : Int)) Y1 rfl (by kernel_rfl) rfl (by rfl) (op_len _ _ (.tmp 44) 31 3 Try.underlying31 rfl _ _ _ rfl) hp1 ?_
        simp only [Act.put, List.setIfInBounds_toArray, List.set_cons_zero, List.set_cons_succ]
        refine step_to 3 46 (.bool true) Y1 rfl (by kernel_rfl) rfl (by rfl) (op_eql3 _ _ (.tmp 45) (.const (.int .i64 0)) 3 rfl _ _ rfl rfl true rfl) hp1 ?_
        simp only [Act.put, List.setIfInBounds_toArray, List.set_cons_zero, List.set_cons_succ]
        refine step_to 4 47 (.bool true) Y1 rfl (by kernel_rfl) rfl (by rfl) (rfl) hp1 ?_
        simp only [Act.put, List.setIfInBounds_toArray, List.set_cons_zero, List.set_cons_succ]
        refine skip_to 5 48 rfl (by kernel_rfl) (by kernel_rfl) (by kernel_rfl) (fun _ _ _ h => h) rfl (by rfl) hp1 ?_
        simp only [Act.put, List.setIfInBounds_toArray, List.set_cons_zero, List.set_cons_succ]
        refine skip_to 6 49 rfl (by kernel_rfl) (by kernel_rfl) (by kernel_rfl) (fun _ _ _ h => h) rfl (by rfl) hp1 ?_
        simp only [Act.put, List.setIfInBounds_toArray, List.set_cons_zero, List.set_cons_succ]
        refine skip_to 7 50 rfl (by kernel_rfl) (by kernel_rfl) (by kernel_rfl) (fun _ _ _ h => h) rfl (by rfl) hp1 ?_
        simp only [Act.put, List.setIfInBounds_toArray, List.set_cons_zero, List.set_cons_succ]
        refine skip_to 8 51 rfl (by kernel_rfl) (by kernel_rfl) (by kernel_rfl) (fun _ _ _ h => h) rfl (by rfl) hp1 ?_
        simp only [Act.put, List.setIfInBounds_toArray, List.set_cons_zero, List.set_cons_succ]
        refine skip_to 9 52 rfl (by kernel_rfl) (by kernel_rfl) (by kernel_rfl) (fun _ _ _ h => h) rfl (by rfl) hp1 ?_
        simp only [Act.put, List.setIfInBounds_toArray, List.set_cons_zero, List.set_cons_succ]
        refine skip_to 10 53 rfl (by kernel_rfl) (by kernel_rfl) (by kernel_rfl) (fun _ _ _ h => h) rfl (by rfl) hp1 ?_
        simp only [Act.put, List.setIfInBounds_toArray, List.set_cons_zero, List.set_cons_succ]
        refine skip_to 11 54 rfl (by kernel_rfl) (by kernel_rfl) (by kernel_rfl) (fun _ _ _ h => h) rfl (by rfl) hp1 ?_
        simp only [Act.put, List.setIfInBounds_toArray, List.set_cons_zero, List.set_cons_succ]
        refine skip_to 12 55 rfl (by kernel_rfl) (by kernel_rfl) (by kernel_rfl) (fun _ _ _ h => h) rfl (by rfl) hp1 ?_
        simp only [Act.put, List.setIfInBounds_toArray, List.set_cons_zero, List.set_cons_succ]
        refine skip_to 13 56 rfl (by kernel_rfl) (by kernel_rfl) (by kernel_rfl) (fun _ _ _ h => h) rfl (by rfl) hp1 ?_
        simp only [Act.put, List.setIfInBounds_toArray, List.set_cons_zero, List.set_cons_succ]
        refine skip_to 14 57 rfl (by kernel_rfl) (by kernel_rfl) (by kernel_rfl) (fun _ _ _ h => h) rfl (by rfl) hp1 ?_
        simp only [Act.put, List.setIfInBounds_toArray, List.set_cons_zero, List.set_cons_succ]
        refine skip_to 15 58 rfl (by kernel_rfl) (by kernel_rfl) (by kernel_rfl) (fun _ _ _ h => h) rfl (by rfl) hp1 ?_
        simp only [Act.put, List.setIfInBounds_toArray, List.set_cons_zero, List.set_cons_succ]
        refine skip_to 16 59 rfl (by kernel_rfl) (by kernel_rfl) (by kernel_rfl) (fun _ _ _ h => h) rfl (by rfl) hp1 ?_
        simp only [Act.put, List.setIfInBounds_toArray, List.set_cons_zero, List.set_cons_succ]
        refine skip_to 17 60 rfl (by kernel_rfl) (by kernel_rfl) (by kernel_rfl) (fun _ _ _ h => h) rfl (by rfl) hp1 ?_
        simp only [Act.put, List.setIfInBounds_toArray, List.set_cons_zero, List.set_cons_succ]
        refine step_to 18 61 (.bool true) Y1 rfl (by kernel_rfl) rfl (by rfl) (rfl) hp1 ?_
        simp only [Act.put, List.setIfInBounds_toArray, List.set_cons_zero, List.set_cons_succ]
        refine step_to 19 10 (.bool true) Y1 rfl (by kernel_rfl) rfl (by rfl) (rfl) hp1 ?_
        simp only [Act.put, List.setIfInBounds_toArray, List.set_cons_zero, List.set_cons_succ]
        refine wpAnyH_done (by kernel_rfl) ?_ _
        have HPE := hide hp1
        have HBE := hide ((HB.out.trans (below_drewN _ _ 1)).trans (hy1.mono (by show _ ≤ wr.heap.size; exact HB.out.size)))
        clear hp1 hy1 hown1 hH
        generalize Y1 = WE at *
        have HFR := hide (free_ok HG.out HPE.out)
        go_wp2_with fail
        refine HFR.out.mono ?_
        rintro e X1 ⟨rfl, hx1⟩
        have HP1 := hide (HPE.out.belowW hx1)
        have HB1 := hide (HBE.out.trans (hx1.mono HBE.out.size))
        have HD1 := hide (HDA.out.belowW (HB1.out))
        clear HFR hx1 HPE HBE
        by_cases hc : g.can data
        · have HX := hide (put_ok HG.out HP1.out HD1.out hc)
          have HGP := hide (can_good HG.out hc)
          have hts := full_size HFU.out data
          have hc1 := hc.1
          have hc2 := hc.2
          rw [hts] at hc2
          have HRM0 := hide (fun W (h : Sl W (.slice ap 504 cp) g.enc) => roomy_any HG.out HFU.out h)
          have hrt : decide (g.size + 4 ≤ 504) = true := decide_eq_true (by omega)
          rw [hrt] at HRM0
          have hfr : data.length ≤ g.free := by unfold Pg.free; omega
          have hdl480 : ((data.length : Nat) : Int) ≤ 480 := by omega
          have hfrI : ((data.length : Nat) : Int) ≤ ((g.free : Nat) : Int) := by omega
          have hgl : g.size = 6 + 4 * 0 + blen g.sl := by unfold Pg.size tsize; rw [hLL]
          have h4I : 6 + 4 * ((0 : Nat) : Int) + 4 ≤ 504 := by omega
          have hat : (g.put data).sl.getD g.least none = some data := at_put (g := g) data
          have HDP := hide (del_put HG.out data)
          have HAT := hide hat
          clear hc hts hc2 hrt hfr hat hgl
          generalize g.least = le at *
          generalize hDD : data.length = D at *
          generalize g.free = fr at *
          go_wp2_with fail
          refine HX.out.mono ?_
          rintro e X2 ⟨aq, cq, rfl, hq2, hx2⟩
          have HQ2 := hide hq2
          have HP2 := hide (HP1.out.belowW hx2)
          have HB2 := hide (HB1.out.trans (hx2.mono HB1.out.size))
          have HS2 := hide (HSLO.out _ HP2.out)
          clear HX hq2 hx2 HP1 HB1 HD1
          go_wp2_with fail
          refine HS2.out.mono ?_
          rintro e X3 ⟨ak3, ck3, rfl, _, hx3⟩
          have HQ3 := hide (HQ2.out.belowW hx3)
          have HP3 := hide (HP2.out.belowW hx3)
          have HB3 := hide (HB2.out.trans (hx3.mono HB2.out.size))
          have HR3 := hide (HRM0.out _ HP3.out)
          clear HS2 hx3 HQ2 HP2 HB2
          go_wp2_with fail
          refine HR3.out.mono ?_
          rintro e X4 ⟨rfl, hx4⟩
          have HQ4 := hide (HQ3.out.belowW hx4)
          have HP4 := hide (HP3.out.belowW hx4)
          have HB4 := hide (HB3.out.trans (hx4.mono HB3.out.size))
          have HG4 := hide (get_ok HGP.out HQ4.out HAT.out)
          rw [hDD] at HG4
          clear HR3 hx4 HQ3 HP3 HB3
          go_wp2_with fail
          refine HG4.out.mono ?_
          rintro e X5 ⟨ax, cx, rfl, hx5s, hx5⟩
          have HQ5 := hide (HQ4.out.belowW hx5)
          have HP5 := hide (HP4.out.belowW hx5)
          have HB5 := hide (HB4.out.trans (hx5.mono HB4.out.size))
          have HX5 := hide hx5s
          have HD5 := hide (del_ok HGP.out HQ5.out HAT.out)
          rw [HDP.out] at HD5
          clear HG4 hx5 HQ4 HP4 HB4 hx5s
          go_wp2_with fail
          refine HD5.out.mono ?_
          rintro e X6 ⟨ar, cr, rfl, hr6, hx6⟩
          have cv1 := run_str (HX5.out.belowW hx6)
          have cv2 := run_str (HDA.out.belowW (HB5.out.trans (hx6.mono HB5.out.size)))
          have cv3 := run_str hr6
          have cv4 := run_str (HP5.out.belowW hx6)
          have HB6 := hide (HB5.out.trans (hx6.mono HB5.out.size))
          have HA6 := hide (awake_any X6)
          generalize strOf data = sd at *
          generalize strOf g.enc = sg at *
          clear HD5 hx6 hr6
          go_wp2_with (go_at_call 17; refine HA6.out.mono ?_; rintro e X7 ⟨rfl, hx7⟩)
          go_ret
          exact ⟨rfl, HB6.out.trans (hx7.mono HB6.out.size)⟩
        · have HX := hide (put_no HG.out HP1.out HD1.out hc)
          have hne := err_ne g data
          have hts := full_size HFU.out data
          have hcc : data.length ≤ 480 → 504 < g.size + 4 + data.length := fun h1 => Classical.byContradiction fun h2 => hc ⟨h1, by rw [hts]; omega⟩
          have HRM0 := hide (fun W (h : Sl W (.slice ap 504 cp) g.enc) => roomy_any HG.out HFU.out h)
          have hfre : g.free = min (504 - 4 - g.size) 480 := rfl
          have HCC : Hid (data.length ≤ 480 → data.length ≤ g.free → ¬ (g.size + 4 ≤ 504)) := fun h1 h2 => by have := hcc h1; omega
          clear hc hts hcc hfre
          generalize g.err data = er at *
          generalize hDD : data.length = D at *
          generalize g.free = fr at *
          by_cases h480 : D ≤ 480
          · have h480I : (D : Int) ≤ 480 := by omega
            by_cases h4 : 6 + 4 * 0 + 4 ≤ 504
            · have h4I : 6 + 4 * ((0 : Nat) : Int) + 4 ≤ 504 := by omega
              go_wp2_with fail
              refine HX.out.mono ?_
              rintro e X2 ⟨rfl, hx2⟩
              have HP2 := hide (HP1.out.belowW hx2)
              have HB2 := hide (HB1.out.trans (hx2.mono HB1.out.size))
              have HS2 := hide (HSLO.out _ HP2.out)
              clear HX hx2 HP1 HB1 HD1
              by_cases hfr : D ≤ fr
              · have hfrI : (D : Int) ≤ (fr : Int) := by omega
                have hrt : decide (g.size + 4 ≤ 504) = false := decide_eq_false (HCC.out h480 hfr)
                rw [hrt] at HRM0
                go_wp2_with fail
                refine HS2.out.mono ?_
                rintro e X3 ⟨ak3, ck3, rfl, _, hx3⟩
                have HP3 := hide (HP2.out.belowW hx3)
                have HB3 := hide (HB2.out.trans (hx3.mono HB2.out.size))
                have HR3 := hide (HRM0.out _ HP3.out)
                clear HS2 hx3 HP2 HB2 hrt
                go_wp2_with fail
                refine HR3.out.mono ?_
                rintro e X4 ⟨rfl, hx4⟩
                have HB4 := hide (HB3.out.trans (hx4.mono HB3.out.size))
                have HA4 := hide (awake_any X4)
                clear HR3 hx4
                go_wp2_with (go_at_call 17; refine HA4.out.mono ?_; rintro e X5 ⟨rfl, hx5⟩)
                go_ret
                exact ⟨rfl, HB4.out.trans (hx5.mono HB4.out.size)⟩
              · have hfrI : ¬ ((D : Int) ≤ (fr : Int)) := by omega
                go_wp2_with fail
                refine HS2.out.mono ?_
                rintro e X3 ⟨ak3, ck3, rfl, _, hx3⟩
                have HB3 := hide (HB2.out.trans (hx3.mono HB2.out.size))
                have HA3 := hide (awake_any X3)
                clear HS2 hx3
                go_wp2_with (go_at_call 17; refine HA3.out.mono ?_; rintro e X5 ⟨rfl, hx5⟩)
                go_ret
                exact ⟨rfl, HB3.out.trans (hx5.mono HB3.out.size)⟩
            · omega
          · have h480I : ¬ ((D : Int) ≤ 480) := by omega
            go_wp2_with fail
            refine HX.out.mono ?_
            rintro e X2 ⟨rfl, hx2⟩
            have HB2 := hide (HB1.out.trans (hx2.mono HB1.out.size))
            have HA2 := hide (awake_any X2)
            clear HX hx2
            go_wp2_with (go_at_call 17; refine HA2.out.mono ?_; rintro e X5 ⟨rfl, hx5⟩)
            go_ret
            exact ⟨rfl, HB2.out.trans (hx5.mono HB2.out.size)⟩
      · have hLe : ((L : Int) == 0) = false := by rw [beq_eq_false_iff_ne]; omega
        have hLs : IntKind.i64.wrap ((L : Int) - 1) = ((L - 1 : Nat) : Int) := wrapN (by omega) (by omega)
        refine wp_region_held_drew (S := fun w' => Sl w' (.slice ap 504 cp) g.enc) (by kernel_rfl) (HP.out.belowW (below_drewN _ _ 1)) (fun hH => ?_)
        refine take_to 0 43 (.slice ap 504 cp) rfl (by kernel_rfl) (by kernel_rfl) (by kernel_rfl) (fun _ _ _ h => h) rfl (by rfl) (fun w hw => by rfl) hH ?_
        simp only [Act.put, List.setIfInBounds_toArray, List.set_cons_zero, List.set_cons_succ]
        refine step_call1_to 1 44 14 rfl (by kernel_rfl) rfl (by rfl) (.tmp 43) _ rfl _ rfl Try.enters14 (HSLO.out _ hH) ?_
        rintro e Y1 ⟨ak1, ck1, rfl, hown1, hy1⟩
        have hp1 : Sl Y1 (.slice ap 504 cp) g.enc := hH.belowW hy1
        refine ⟨_, rfl, hp1, ?_⟩
        simp only [Act.put, List.setIfInBounds_toArray, List.set_cons_zero, List.set_cons_succ]
        refine step_to 2 45 (.int .i64 (L : Int)) Y1 rfl (by kernel_rfl) rfl (by rfl) (op_len _ _ (.tmp 44) 31 3 Try.underlying31 rfl _ _ _ rfl) hp1 ?_
        simp only [Act.put, List.setIfInBounds_toArray, List.set_cons_zero, List.set_cons_succ]
        refine step_to 3 46 (.bool false) Y1 rfl (by kernel_rfl) rfl (by rfl) (op_eql3 _ _ (.tmp 45) (.const (.int .i64 0)) 3 rfl _ _ rfl rfl false hLe) hp1 ?_
        simp only [Act.put, List.setIfInBounds_toArray, List.set_cons_zero, List.set_cons_succ]
        refine step_to 4 47 (.bool false) Y1 rfl (by kernel_rfl) rfl (by rfl) (rfl) hp1 ?_
        simp only [Act.put, List.setIfInBounds_toArray, List.set_cons_zero, List.set_cons_succ]
        refine take_to 5 48 (.slice ap 504 cp) rfl (by kernel_rfl) (by kernel_rfl) (by kernel_rfl) (fun _ _ _ h => h) rfl (by rfl) (fun w hw => by rfl) hp1 ?_
        simp only [Act.put, List.setIfInBounds_toArray, List.set_cons_zero, List.set_cons_succ]
        refine take_to 7 50 (.slice ap 504 cp) rfl (by kernel_rfl) (by kernel_rfl) (by kernel_rfl) (fun _ _ _ h => h) rfl (by rfl) (fun w hw => by rfl) hp1 ?_
        simp only [Act.put, List.setIfInBounds_toArray, List.set_cons_zero, List.set_cons_succ]
        refine take_to 13 56 (.slice ap 504 cp) rfl (by kernel_rfl) (by kernel_rfl) (by kernel_rfl) (fun _ _ _ h => h) rfl (by rfl) (fun w hw => by rfl) hp1 ?_
        simp only [Act.put, List.setIfInBounds_toArray, List.set_cons_zero, List.set_cons_succ]
        refine step_call1_to 6 49 14 rfl (by kernel_rfl) rfl (by rfl) (.tmp 48) _ rfl _ rfl Try.enters14 (HSLO.out _ hp1) ?_
        rintro e Y2 ⟨ak, ck, rfl, hown2, hy2⟩
        have hp2 : Sl Y2 (.slice ap 504 cp) g.enc := hp1.belowW hy2
        obtain ⟨gk, ok, rfl, kc2⟩ := nats_of (by rw [HSL.out]; exact hown2) (L - 1) (by rw [HSL.out]; omega)
        rw [full_get HFU.out (by omega)] at kc2
        refine ⟨_, rfl, hp2, ?_⟩
        simp only [Act.put, List.setIfInBounds_toArray, List.set_cons_zero, List.set_cons_succ]
        refine step_call1_to 8 51 14 rfl (by kernel_rfl) rfl (by rfl) (.tmp 50) _ rfl _ rfl Try.enters14 (HSLO.out _ hp2) ?_
        rintro e Y3 ⟨ak3, ck3, rfl, hown3, hy3⟩
        have hp3 : Sl Y3 (.slice ap 504 cp) g.enc := hp2.belowW hy3
        have kc3 := (hy3.cell (World.block_lt_of_cell? Y2 _ kc2)).trans kc2
        refine ⟨_, rfl, hp3, ?_⟩
        simp only [Act.put, List.setIfInBounds_toArray, List.set_cons_zero, List.set_cons_succ]
        refine take_to 9 52 (.int .i64 (L : Int)) rfl (by kernel_rfl) (by kernel_rfl) (by kernel_rfl) (fun _ _ _ h => h) rfl (by rfl) (fun w hw => op_len _ _ (.tmp 51) 31 3 Try.underlying31 rfl _ _ _ rfl) hp3 ?_
        simp only [Act.put, List.setIfInBounds_toArray, List.set_cons_zero, List.set_cons_succ]
        refine take_to 10 53 (.int .i64 ((L - 1 : Nat) : Int)) rfl (by kernel_rfl) (by kernel_rfl) (by kernel_rfl) (fun _ _ _ h => h) rfl (by rfl) (fun w hw => op_sub3 _ _ (.tmp 52) (.const (.int .i64 1)) 3 rfl _ _ rfl rfl _ hLs) hp3 ?_
        simp only [Act.put, List.setIfInBounds_toArray, List.set_cons_zero, List.set_cons_succ]
        refine take_to 11 54 (.pointer (some ⟨gk, ok + (L - 1), none⟩)) rfl (by kernel_rfl) (by kernel_rfl) (by kernel_rfl) (fun _ _ _ h => h) rfl (by rfl) (fun w' hw => op_index _ _ 31 (.tmp 49) (.tmp 53) rfl _ _ _ rfl rfl (run_index31 w' gk ok L ck (L - 1) (by omega))) hp3 ?_
        simp only [Act.put, List.setIfInBounds_toArray, List.set_cons_zero, List.set_cons_succ]
        refine wpAnyH_all (rs := [12, 14]) (by kernel_rfl) (by simp) ?_
        intro i hi
        simp only [List.mem_cons, List.not_mem_nil, or_false] at hi
        rcases hi with rfl | rfl
        · refine op_to 55 (.int .i64 ((L - 1 : Nat) : Int)) Y3 rfl rfl (by rfl) (op_load _ _ 3 (.tmp 54) rfl (.pointer (some ⟨gk, ok + (L - 1), none⟩)) _ rfl (run_loadAny Y3 gk (ok + (L - 1)) 3 _ Try.isAgg3 kc3)) ⟨hp3, ?_⟩
          simp only [Act.put, List.setIfInBounds_toArray, List.set_cons_zero, List.set_cons_succ]
          refine step_call1_to 14 57 14 rfl (by kernel_rfl) rfl (by rfl) (.tmp 56) _ rfl _ rfl Try.enters14 (HSLO.out _ hp3) ?_
          rintro e Y4 ⟨ak4, ck4, rfl, hown4, hy4⟩
          have hp4 : Sl Y4 (.slice ap 504 cp) g.enc := hp3.belowW hy4
          refine ⟨_, rfl, hp4, ?_⟩
          simp only [Act.put, List.setIfInBounds_toArray, List.set_cons_zero, List.set_cons_succ]
          refine take_to 15 58 (.int .i64 (L : Int)) rfl (by kernel_rfl) (by kernel_rfl) (by kernel_rfl) (fun _ _ _ h => h) rfl (by rfl) (fun w hw => op_len _ _ (.tmp 57) 31 3 Try.underlying31 rfl _ _ _ rfl) hp4 ?_
          simp only [Act.put, List.setIfInBounds_toArray, List.set_cons_zero, List.set_cons_succ]
          refine take_to 16 59 (.int .i64 ((L - 1 : Nat) : Int)) rfl (by kernel_rfl) (by kernel_rfl) (by kernel_rfl) (fun _ _ _ h => h) rfl (by rfl) (fun w hw => op_sub3 _ _ (.tmp 58) (.const (.int .i64 1)) 3 rfl _ _ rfl rfl _ hLs) hp4 ?_
          simp only [Act.put, List.setIfInBounds_toArray, List.set_cons_zero, List.set_cons_succ]
          refine step_to 17 60 (.bool true) Y4 rfl (by kernel_rfl) rfl (by rfl) (op_eql3 _ _ (.tmp 55) (.tmp 59) 3 rfl _ _ rfl rfl true (by simp)) hp4 ?_
          simp only [Act.put, List.setIfInBounds_toArray, List.set_cons_zero, List.set_cons_succ]
          refine step_to 18 61 (.bool true) Y4 rfl (by kernel_rfl) rfl (by rfl) (rfl) hp4 ?_
          simp only [Act.put, List.setIfInBounds_toArray, List.set_cons_zero, List.set_cons_succ]
          refine step_to 19 10 (.bool true) Y4 rfl (by kernel_rfl) rfl (by rfl) (rfl) hp4 ?_
          simp only [Act.put, List.setIfInBounds_toArray, List.set_cons_zero, List.set_cons_succ]
          clear hown4
          refine wpAnyH_done (by kernel_rfl) ?_ _
          have HPE := hide hp4
          have s1 : wr.heap.size ≤ Y1.heap.size := hy1.size
          have s2 := hy2.size
          have s3 := hy3.size
          have s0 := HB.out.size
          have HBE := hide (((((HB.out.trans (below_drewN _ _ 1)).trans (hy1.mono (show _ ≤ wr.heap.size by omega))).trans (hy2.mono (by omega))).trans (hy3.mono (by omega))).trans (hy4.mono (by omega)))
          clear hp1 hp2 hp3 hp4 hy1 hy2 hy3 hy4 hown1 hown2 hown3 kc2 kc3 hH s0 s1 s2 s3
          generalize Y4 = WE at *
          have HFR := hide (free_ok HG.out HPE.out)
          go_wp2_with fail
          refine HFR.out.mono ?_
          rintro e X1 ⟨rfl, hx1⟩
          have HP1 := hide (HPE.out.belowW hx1)
          have HB1 := hide (HBE.out.trans (hx1.mono HBE.out.size))
          have HD1 := hide (HDA.out.belowW (HB1.out))
          clear HFR hx1 HPE HBE
          by_cases hc : g.can data
          · have HX := hide (put_ok HG.out HP1.out HD1.out hc)
            have HGP := hide (can_good HG.out hc)
            have hts := full_size HFU.out data
            have hc1 := hc.1
            have hc2 := hc.2
            rw [hts] at hc2
            have HRM0 := hide (fun W (h : Sl W (.slice ap 504 cp) g.enc) => roomy_any HG.out HFU.out h)
            have hrt : decide (g.size + 4 ≤ 504) = true := decide_eq_true (by omega)
            rw [hrt] at HRM0
            have hfr : data.length ≤ g.free := by unfold Pg.free; omega
            have hdl480 : ((data.length : Nat) : Int) ≤ 480 := by omega
            have hfrI : ((data.length : Nat) : Int) ≤ ((g.free : Nat) : Int) := by omega
            have hgl : g.size = 6 + 4 * L + blen g.sl := by unfold Pg.size tsize; rw [hLL]
            have h4I : 6 + 4 * (L : Int) + 4 ≤ 504 := by omega
            have hat : (g.put data).sl.getD g.least none = some data := at_put (g := g) data
            have HDP := hide (del_put HG.out data)
            have HAT := hide hat
            clear hc hts hc2 hrt hfr hat hgl
            generalize g.least = le at *
            generalize hDD : data.length = D at *
            generalize g.free = fr at *
            go_wp2_with fail
            refine HX.out.mono ?_
            rintro e X2 ⟨aq, cq, rfl, hq2, hx2⟩
            have HQ2 := hide hq2
            have HP2 := hide (HP1.out.belowW hx2)
            have HB2 := hide (HB1.out.trans (hx2.mono HB1.out.size))
            have HS2 := hide (HSLO.out _ HP2.out)
            clear HX hq2 hx2 HP1 HB1 HD1
            go_wp2_with fail
            refine HS2.out.mono ?_
            rintro e X3 ⟨ak3, ck3, rfl, _, hx3⟩
            have HQ3 := hide (HQ2.out.belowW hx3)
            have HP3 := hide (HP2.out.belowW hx3)
            have HB3 := hide (HB2.out.trans (hx3.mono HB2.out.size))
            have HR3 := hide (HRM0.out _ HP3.out)
            clear HS2 hx3 HQ2 HP2 HB2
            go_wp2_with fail
            refine HR3.out.mono ?_
            rintro e X4 ⟨rfl, hx4⟩
            have HQ4 := hide (HQ3.out.belowW hx4)
            have HP4 := hide (HP3.out.belowW hx4)
            have HB4 := hide (HB3.out.trans (hx4.mono HB3.out.size))
            have HG4 := hide (get_ok HGP.out HQ4.out HAT.out)
            rw [hDD] at HG4
            clear HR3 hx4 HQ3 HP3 HB3
            go_wp2_with fail
            refine HG4.out.mono ?_
            rintro e X5 ⟨ax, cx, rfl, hx5s, hx5⟩
            have HQ5 := hide (HQ4.out.belowW hx5)
            have HP5 := hide (HP4.out.belowW hx5)
            have HB5 := hide (HB4.out.trans (hx5.mono HB4.out.size))
            have HX5 := hide hx5s
            have HD5 := hide (del_ok HGP.out HQ5.out HAT.out)
            rw [HDP.out] at HD5
            clear HG4 hx5 HQ4 HP4 HB4 hx5s
            go_wp2_with fail
            refine HD5.out.mono ?_
            rintro e X6 ⟨ar, cr, rfl, hr6, hx6⟩
            have cv1 := run_str (HX5.out.belowW hx6)
            have cv2 := run_str (HDA.out.belowW (HB5.out.trans (hx6.mono HB5.out.size)))
            have cv3 := run_str hr6
            have cv4 := run_str (HP5.out.belowW hx6)
            have HB6 := hide (HB5.out.trans (hx6.mono HB5.out.size))
            have HA6 := hide (awake_any X6)
            generalize strOf data = sd at *
            generalize strOf g.enc = sg at *
            clear HD5 hx6 hr6
            go_wp2_with (go_at_call 17; refine HA6.out.mono ?_; rintro e X7 ⟨rfl, hx7⟩)
            go_ret
            exact ⟨rfl, HB6.out.trans (hx7.mono HB6.out.size)⟩
          · have HX := hide (put_no HG.out HP1.out HD1.out hc)
            have hne := err_ne g data
            have hts := full_size HFU.out data
            have hcc : data.length ≤ 480 → 504 < g.size + 4 + data.length := fun h1 => Classical.byContradiction fun h2 => hc ⟨h1, by rw [hts]; omega⟩
            have HRM0 := hide (fun W (h : Sl W (.slice ap 504 cp) g.enc) => roomy_any HG.out HFU.out h)
            have hfre : g.free = min (504 - 4 - g.size) 480 := rfl
            have HCC : Hid (data.length ≤ 480 → data.length ≤ g.free → ¬ (g.size + 4 ≤ 504)) := fun h1 h2 => by have := hcc h1; omega
            clear hc hts hcc hfre
            generalize g.err data = er at *
            generalize hDD : data.length = D at *
            generalize g.free = fr at *
            by_cases h480 : D ≤ 480
            · have h480I : (D : Int) ≤ 480 := by omega
              by_cases h4 : 6 + 4 * L + 4 ≤ 504
              · have h4I : 6 + 4 * (L : Int) + 4 ≤ 504 := by omega
                go_wp2_with fail
                refine HX.out.mono ?_
                rintro e X2 ⟨rfl, hx2⟩
                have HP2 := hide (HP1.out.belowW hx2)
                have HB2 := hide (HB1.out.trans (hx2.mono HB1.out.size))
                have HS2 := hide (HSLO.out _ HP2.out)
                clear HX hx2 HP1 HB1 HD1
                by_cases hfr : D ≤ fr
                · have hfrI : (D : Int) ≤ (fr : Int) := by omega
                  have hrt : decide (g.size + 4 ≤ 504) = false := decide_eq_false (HCC.out h480 hfr)
                  rw [hrt] at HRM0
                  go_wp2_with fail
                  refine HS2.out.mono ?_
                  rintro e X3 ⟨ak3, ck3, rfl, _, hx3⟩
                  have HP3 := hide (HP2.out.belowW hx3)
                  have HB3 := hide (HB2.out.trans (hx3.mono HB2.out.size))
                  have HR3 := hide (HRM0.out _ HP3.out)
                  clear HS2 hx3 HP2 HB2 hrt
                  go_wp2_with fail
                  refine HR3.out.mono ?_
                  rintro e X4 ⟨rfl, hx4⟩
                  have HB4 := hide (HB3.out.trans (hx4.mono HB3.out.size))
                  have HA4 := hide (awake_any X4)
                  clear HR3 hx4
                  go_wp2_with (go_at_call 17; refine HA4.out.mono ?_; rintro e X5 ⟨rfl, hx5⟩)
                  go_ret
                  exact ⟨rfl, HB4.out.trans (hx5.mono HB4.out.size)⟩
                · have hfrI : ¬ ((D : Int) ≤ (fr : Int)) := by omega
                  go_wp2_with fail
                  refine HS2.out.mono ?_
                  rintro e X3 ⟨ak3, ck3, rfl, _, hx3⟩
                  have HB3 := hide (HB2.out.trans (hx3.mono HB2.out.size))
                  have HA3 := hide (awake_any X3)
                  clear HS2 hx3
                  go_wp2_with (go_at_call 17; refine HA3.out.mono ?_; rintro e X5 ⟨rfl, hx5⟩)
                  go_ret
                  exact ⟨rfl, HB3.out.trans (hx5.mono HB3.out.size)⟩
              · have h4I : ¬ (6 + 4 * (L : Int) + 4 ≤ 504) := by omega
                go_wp2_with fail
                refine HX.out.mono ?_
                rintro e X2 ⟨rfl, hx2⟩
                have HP2 := hide (HP1.out.belowW hx2)
                have HB2 := hide (HB1.out.trans (hx2.mono HB1.out.size))
                have HS2 := hide (HSLO.out _ HP2.out)
                clear HX hx2 HP1 HB1 HD1
                go_wp2_with fail
                refine HS2.out.mono ?_
                rintro e X3 ⟨ak3, ck3, rfl, _, hx3⟩
                have HB3 := hide (HB2.out.trans (hx3.mono HB2.out.size))
                have HA3 := hide (awake_any X3)
                clear HS2 hx3
                go_wp2_with (go_at_call 17; refine HA3.out.mono ?_; rintro e X5 ⟨rfl, hx5⟩)
                go_ret
                exact ⟨rfl, HB3.out.trans (hx5.mono HB3.out.size)⟩
            · have h480I : ¬ ((D : Int) ≤ 480) := by omega
              go_wp2_with fail
              refine HX.out.mono ?_
              rintro e X2 ⟨rfl, hx2⟩
              have HB2 := hide (HB1.out.trans (hx2.mono HB1.out.size))
              have HA2 := hide (awake_any X2)
              clear HX hx2
              go_wp2_with (go_at_call 17; refine HA2.out.mono ?_; rintro e X5 ⟨rfl, hx5⟩)
              go_ret
              exact ⟨rfl, HB2.out.trans (hx5.mono HB2.out.size)⟩
        · refine op_call1 57 14 rfl rfl (by rfl) (.tmp 56) _ rfl _ rfl Try.enters14 (HSLO.out _ hp3) ?_
          rintro e Y4 ⟨ak4, ck4, rfl, hown4, hy4⟩
          have hp4 : Sl Y4 (.slice ap 504 cp) g.enc := hp3.belowW hy4
          have kc4 := (hy4.cell (World.block_lt_of_cell? Y3 _ kc3)).trans kc3
          refine ⟨_, rfl, hp4, ?_⟩
          simp only [Act.put, List.setIfInBounds_toArray, List.set_cons_zero, List.set_cons_succ]
          refine take_to 15 58 (.int .i64 (L : Int)) rfl (by kernel_rfl) (by kernel_rfl) (by kernel_rfl) (fun _ _ _ h => h) rfl (by rfl) (fun w hw => op_len _ _ (.tmp 57) 31 3 Try.underlying31 rfl _ _ _ rfl) hp4 ?_
          simp only [Act.put, List.setIfInBounds_toArray, List.set_cons_zero, List.set_cons_succ]
          refine take_to 16 59 (.int .i64 ((L - 1 : Nat) : Int)) rfl (by kernel_rfl) (by kernel_rfl) (by kernel_rfl) (fun _ _ _ h => h) rfl (by rfl) (fun w hw => op_sub3 _ _ (.tmp 58) (.const (.int .i64 1)) 3 rfl _ _ rfl rfl _ hLs) hp4 ?_
          simp only [Act.put, List.setIfInBounds_toArray, List.set_cons_zero, List.set_cons_succ]
          refine step_to 12 55 (.int .i64 ((L - 1 : Nat) : Int)) Y4 rfl (by kernel_rfl) rfl (by rfl) (op_load _ _ 3 (.tmp 54) rfl (.pointer (some ⟨gk, ok + (L - 1), none⟩)) _ rfl (run_loadAny Y4 gk (ok + (L - 1)) 3 _ Try.isAgg3 kc4)) hp4 ?_
          simp only [Act.put, List.setIfInBounds_toArray, List.set_cons_zero, List.set_cons_succ]
          refine step_to 17 60 (.bool true) Y4 rfl (by kernel_rfl) rfl (by rfl) (op_eql3 _ _ (.tmp 55) (.tmp 59) 3 rfl _ _ rfl rfl true (by simp)) hp4 ?_
          simp only [Act.put, List.setIfInBounds_toArray, List.set_cons_zero, List.set_cons_succ]
          refine step_to 18 61 (.bool true) Y4 rfl (by kernel_rfl) rfl (by rfl) (rfl) hp4 ?_
          simp only [Act.put, List.setIfInBounds_toArray, List.set_cons_zero, List.set_cons_succ]
          refine step_to 19 10 (.bool true) Y4 rfl (by kernel_rfl) rfl (by rfl) (rfl) hp4 ?_
          simp only [Act.put, List.setIfInBounds_toArray, List.set_cons_zero, List.set_cons_succ]
          clear hown4 kc4
          refine wpAnyH_done (by kernel_rfl) ?_ _
          have HPE := hide hp4
          have s1 : wr.heap.size ≤ Y1.heap.size := hy1.size
          have s2 := hy2.size
          have s3 := hy3.size
          have s0 := HB.out.size
          have HBE := hide (((((HB.out.trans (below_drewN _ _ 1)).trans (hy1.mono (show _ ≤ wr.heap.size by omega))).trans (hy2.mono (by omega))).trans (hy3.mono (by omega))).trans (hy4.mono (by omega)))
          clear hp1 hp2 hp3 hp4 hy1 hy2 hy3 hy4 hown1 hown2 hown3 kc2 kc3 hH s0 s1 s2 s3
          generalize Y4 = WE at *
          have HFR := hide (free_ok HG.out HPE.out)
          go_wp2_with fail
          refine HFR.out.mono ?_
          rintro e X1 ⟨rfl, hx1⟩
          have HP1 := hide (HPE.out.belowW hx1)
          have HB1 := hide (HBE.out.trans (hx1.mono HBE.out.size))
          have HD1 := hide (HDA.out.belowW (HB1.out))
          clear HFR hx1 HPE HBE
          by_cases hc : g.can data
          · have HX := hide (put_ok HG.out HP1.out HD1.out hc)
            have HGP := hide (can_good HG.out hc)
            have hts := full_size HFU.out data
            have hc1 := hc.1
            have hc2 := hc.2
            rw [hts] at hc2
            have HRM0 := hide (fun W (h : Sl W (.slice ap 504 cp) g.enc) => roomy_any HG.out HFU.out h)
            have hrt : decide (g.size + 4 ≤ 504) = true := decide_eq_true (by omega)
            rw [hrt] at HRM0
            have hfr : data.length ≤ g.free := by unfold Pg.free; omega
            have hdl480 : ((data.length : Nat) : Int) ≤ 480 := by omega
            have hfrI : ((data.length : Nat) : Int) ≤ ((g.free : Nat) : Int) := by omega
            have hgl : g.size = 6 + 4 * L + blen g.sl := by unfold Pg.size tsize; rw [hLL]
            have h4I : 6 + 4 * (L : Int) + 4 ≤ 504 := by omega
            have hat : (g.put data).sl.getD g.least none = some data := at_put (g := g) data
            have HDP := hide (del_put HG.out data)
            have HAT := hide hat
            clear hc hts hc2 hrt hfr hat hgl
            generalize g.least = le at *
            generalize hDD : data.length = D at *
            generalize g.free = fr at *
            go_wp2_with fail
            refine HX.out.mono ?_
            rintro e X2 ⟨aq, cq, rfl, hq2, hx2⟩
            have HQ2 := hide hq2
            have HP2 := hide (HP1.out.belowW hx2)
            have HB2 := hide (HB1.out.trans (hx2.mono HB1.out.size))
            have HS2 := hide (HSLO.out _ HP2.out)
            clear HX hq2 hx2 HP1 HB1 HD1
            go_wp2_with fail
            refine HS2.out.mono ?_
            rintro e X3 ⟨ak3, ck3, rfl, _, hx3⟩
            have HQ3 := hide (HQ2.out.belowW hx3)
            have HP3 := hide (HP2.out.belowW hx3)
            have HB3 := hide (HB2.out.trans (hx3.mono HB2.out.size))
            have HR3 := hide (HRM0.out _ HP3.out)
            clear HS2 hx3 HQ2 HP2 HB2
            go_wp2_with fail
            refine HR3.out.mono ?_
            rintro e X4 ⟨rfl, hx4⟩
            have HQ4 := hide (HQ3.out.belowW hx4)
            have HP4 := hide (HP3.out.belowW hx4)
            have HB4 := hide (HB3.out.trans (hx4.mono HB3.out.size))
            have HG4 := hide (get_ok HGP.out HQ4.out HAT.out)
            rw [hDD] at HG4
            clear HR3 hx4 HQ3 HP3 HB3
            go_wp2_with fail
            refine HG4.out.mono ?_
            rintro e X5 ⟨ax, cx, rfl, hx5s, hx5⟩
            have HQ5 := hide (HQ4.out.belowW hx5)
            have HP5 := hide (HP4.out.belowW hx5)
            have HB5 := hide (HB4.out.trans (hx5.mono HB4.out.size))
            have HX5 := hide hx5s
            have HD5 := hide (del_ok HGP.out HQ5.out HAT.out)
            rw [HDP.out] at HD5
            clear HG4 hx5 HQ4 HP4 HB4 hx5s
            go_wp2_with fail
            refine HD5.out.mono ?_
            rintro e X6 ⟨ar, cr, rfl, hr6, hx6⟩
            have cv1 := run_str (HX5.out.belowW hx6)
            have cv2 := run_str (HDA.out.belowW (HB5.out.trans (hx6.mono HB5.out.size)))
            have cv3 := run_str hr6
            have cv4 := run_str (HP5.out.belowW hx6)
            have HB6 := hide (HB5.out.trans (hx6.mono HB5.out.size))
            have HA6 := hide (awake_any X6)
            generalize strOf data = sd at *
            generalize strOf g.enc = sg at *
            clear HD5 hx6 hr6
            go_wp2_with (go_at_call 17; refine HA6.out.mono ?_; rintro e X7 ⟨rfl, hx7⟩)
            go_ret
            exact ⟨rfl, HB6.out.trans (hx7.mono HB6.out.size)⟩
          · have HX := hide (put_no HG.out HP1.out HD1.out hc)
            have hne := err_ne g data
            have hts := full_size HFU.out data
            have hcc : data.length ≤ 480 → 504 < g.size + 4 + data.length := fun h1 => Classical.byContradiction fun h2 => hc ⟨h1, by rw [hts]; omega⟩
            have HRM0 := hide (fun W (h : Sl W (.slice ap 504 cp) g.enc) => roomy_any HG.out HFU.out h)
            have hfre : g.free = min (504 - 4 - g.size) 480 := rfl
            have HCC : Hid (data.length ≤ 480 → data.length ≤ g.free → ¬ (g.size + 4 ≤ 504)) := fun h1 h2 => by have := hcc h1; omega
            clear hc hts hcc hfre
            generalize g.err data = er at *
            generalize hDD : data.length = D at *
            generalize g.free = fr at *
            by_cases h480 : D ≤ 480
            · have h480I : (D : Int) ≤ 480 := by omega
              by_cases h4 : 6 + 4 * L + 4 ≤ 504
              · have h4I : 6 + 4 * (L : Int) + 4 ≤ 504 := by omega
                go_wp2_with fail
                refine HX.out.mono ?_
                rintro e X2 ⟨rfl, hx2⟩
                have HP2 := hide (HP1.out.belowW hx2)
                have HB2 := hide (HB1.out.trans (hx2.mono HB1.out.size))
                have HS2 := hide (HSLO.out _ HP2.out)
                clear HX hx2 HP1 HB1 HD1
                by_cases hfr : D ≤ fr
                · have hfrI : (D : Int) ≤ (fr : Int) := by omega
                  have hrt : decide (g.size + 4 ≤ 504) = false := decide_eq_false (HCC.out h480 hfr)
                  rw [hrt] at HRM0
                  go_wp2_with fail
                  refine HS2.out.mono ?_
                  rintro e X3 ⟨ak3, ck3, rfl, _, hx3⟩
                  have HP3 := hide (HP2.out.belowW hx3)
                  have HB3 := hide (HB2.out.trans (hx3.mono HB2.out.size))
                  have HR3 := hide (HRM0.out _ HP3.out)
                  clear HS2 hx3 HP2 HB2 hrt
                  go_wp2_with fail
                  refine HR3.out.mono ?_
                  rintro e X4 ⟨rfl, hx4⟩
                  have HB4 := hide (HB3.out.trans (hx4.mono HB3.out.size))
                  have HA4 := hide (awake_any X4)
                  clear HR3 hx4
                  go_wp2_with (go_at_call 17; refine HA4.out.mono ?_; rintro e X5 ⟨rfl, hx5⟩)
                  go_ret
                  exact ⟨rfl, HB4.out.trans (hx5.mono HB4.out.size)⟩
                · have hfrI : ¬ ((D : Int) ≤ (fr : Int)) := by omega
                  go_wp2_with fail
                  refine HS2.out.mono ?_
                  rintro e X3 ⟨ak3, ck3, rfl, _, hx3⟩
                  have HB3 := hide (HB2.out.trans (hx3.mono HB2.out.size))
                  have HA3 := hide (awake_any X3)
                  clear HS2 hx3
                  go_wp2_with (go_at_call 17; refine HA3.out.mono ?_; rintro e X5 ⟨rfl, hx5⟩)
                  go_ret
                  exact ⟨rfl, HB3.out.trans (hx5.mono HB3.out.size)⟩
              · have h4I : ¬ (6 + 4 * (L : Int) + 4 ≤ 504) := by omega
                go_wp2_with fail
                refine HX.out.mono ?_
                rintro e X2 ⟨rfl, hx2⟩
                have HP2 := hide (HP1.out.belowW hx2)
                have HB2 := hide (HB1.out.trans (hx2.mono HB1.out.size))
                have HS2 := hide (HSLO.out _ HP2.out)
                clear HX hx2 HP1 HB1 HD1
                go_wp2_with fail
                refine HS2.out.mono ?_
                rintro e X3 ⟨ak3, ck3, rfl, _, hx3⟩
                have HB3 := hide (HB2.out.trans (hx3.mono HB2.out.size))
                have HA3 := hide (awake_any X3)
                clear HS2 hx3
                go_wp2_with (go_at_call 17; refine HA3.out.mono ?_; rintro e X5 ⟨rfl, hx5⟩)
                go_ret
                exact ⟨rfl, HB3.out.trans (hx5.mono HB3.out.size)⟩
            · have h480I : ¬ ((D : Int) ≤ 480) := by omega
              go_wp2_with fail
              refine HX.out.mono ?_
              rintro e X2 ⟨rfl, hx2⟩
              have HB2 := hide (HB1.out.trans (hx2.mono HB1.out.size))
              have HA2 := hide (awake_any X2)
              clear HX hx2
              go_wp2_with (go_at_call 17; refine HA2.out.mono ?_; rintro e X5 ⟨rfl, hx5⟩)
              go_ret
              exact ⟨rfl, HB2.out.trans (hx5.mono HB2.out.size)⟩
end Go.Proofs.Ytdddeneppciiiaa
