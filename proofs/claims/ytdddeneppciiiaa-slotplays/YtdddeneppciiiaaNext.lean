/- SlotNext's walk. -/
import Derived.Test.YtdddeneppciiiaaGood
namespace Go.Proofs.Ytdddeneppciiiaa
open Go.RowKit
set_option linter.unusedVariables false
set_option linter.unusedSimpArgs false

theorem step_call0_to {P : Program} {ops : Array Oper} {Q : Exit → Act → World → Prop} {md : Region.Mode} {S : World → Prop} {o : Oper} {fuel : Nat} {listed : Array Bool} {a : Act} {w : World} {R : Ending → World → Prop} (j dst f : Nat) (hj : ops[j]? = some o)
    (hr : Region.ready md ops listed = [j]) (hd : o.dst = some dst) (hw : Region.wanted o (yielded ops a.tmps) = true) (ts : Array TypeId) (hop : o.op = Op.call { callee := Callee.value (Operand.func f), args := #[], argTypes := ts })
    (hcf : ∀ args w, (callFunc f args).run P w = .ok (.enter f args) w) (hc : Calls P f #[] w R)
    (hK : ∀ e w', R e w' → ∃ v, e = .returned v ∧ S w' ∧ wpAnyH P md ops Q S fuel (listed.setIfInBounds j true) (a.put (some dst) v) w') : wpAnyH P md ops Q S (fuel + 1) listed a w := by
  refine step_by j hj hr (fun K hK' => ?_)
  rw [if_pos hw]
  have hrun : (execOp a.eval o).run P w = .ok (.enter f #[]) w := by
    have hff : a.eval (.func f) = .func (.func f) #[] #[] := rfl
    unfold execOp
    simp [hop, resolve, hff, Deferred.ofValue, invoke]
    exact hcf _ _
  unfold Oper.wp
  rw [hrun, Oper.upon_enter]
  refine hc.mono ?_
  intro e w' hR
  obtain ⟨v, rfl, hS, hW⟩ := hK e w' hR
  show K (a.put o.dst v) w'
  rw [hd]
  exact hK' _ _ hS hW
theorem op_eql9 (ρ : Operand → Value) (o : Oper) (x y : Operand) (tt : TypeId) (ho : o.op = .binOp .eql 9 x y tt) (s : ByteArray) (hx : ρ x = .string s) (hy : ρ y = .string s) {w : World} : (execOp ρ o).run Try.prog w = .ok (.value (.bool true)) w := by
  have hu := Try.underlying9
  unfold execOp
  simp only [ho, hx, hy]
  simp [go_sem, hu]
theorem tmod_low (sh : Int) (N : Nat) (hN : 0 < N) : -(N : Int) < sh.tmod N := by
  have h : (sh.tmod N).natAbs = sh.natAbs % N := by rw [Int.natAbs_tmod, Int.natAbs_natCast]
  have := Nat.mod_lt sh.natAbs hN
  omega
theorem tmod_high (sh : Int) (N : Nat) (hN : 0 < N) : sh.tmod N < (N : Int) := by
  have h : (sh.tmod N).natAbs = sh.natAbs % N := by rw [Int.natAbs_tmod, Int.natAbs_natCast]
  have := Nat.mod_lt sh.natAbs hN
  omega
theorem cut_of (sh : Int) (N : Nat) (hN : 0 < N) : ∃ c : Nat, c < N ∧ (sh.tmod N + N).tmod N = (c : Int) := by
  have h1 := tmod_low sh N hN
  have h2 : (sh.tmod N + N).tmod N = (sh.tmod N + N) % N := Int.tmod_eq_emod_of_nonneg (by omega)
  have h3 := Int.emod_nonneg (sh.tmod N + N) (b := (N : Int)) (by omega)
  have h4 := Int.emod_lt_of_pos (sh.tmod N + N) (b := (N : Int)) (by omega)
  exact ⟨((sh.tmod N + N) % N).toNat, by omega, by rw [h2]; omega⟩
theorem slotsOf_mem : ∀ (S : List Slt) (i k : Nat), k ∈ slotsOf S i → i ≤ k ∧ ∃ d, S.getD (k - i) none = some d
  | [], i, k, h => by simp [slotsOf] at h
  | none :: S, i, k, h => by
    rw [slotsOf] at h
    obtain ⟨h1, d, h2⟩ := slotsOf_mem S (i + 1) k h
    refine ⟨by omega, d, ?_⟩
    rw [show k - i = (k - (i + 1)) + 1 by omega, List.getD_cons_succ]
    exact h2
  | some e :: S, i, k, h => by
    rw [slotsOf] at h
    rcases List.mem_cons.1 h with rfl | h
    · exact ⟨Nat.le_refl _, e, by simp⟩
    · obtain ⟨h1, d, h2⟩ := slotsOf_mem S (i + 1) k h
      refine ⟨by omega, d, ?_⟩
      rw [show k - i = (k - (i + 1)) + 1 by omega, List.getD_cons_succ]
      exact h2
theorem slots_get (g : Pg) (j : Nat) (h : j < g.slots.length) : ∃ d, g.sl.getD (g.slots.getD j 0) none = some d := by
  have := (slotsOf_mem g.sl 0 (g.slots[j]) (List.getElem_mem h)).2
  rw [Nat.sub_zero] at this
  have e : g.slots.getD j 0 = g.slots[j] := by simp [h]
  rw [e]
  exact this
/-- Numbers that may be read. -/
def NatsAt (w : World) (ao : Option Addr) (l : List Nat) : Prop := ∀ j, j < l.length → ∃ g o, ao = some ⟨g, o, none⟩ ∧ w.cell? ⟨g, o + j, none⟩ = some (.int .i64 ((l.getD j 0 : Nat) : Int))
theorem NatsAt.below {w w' : World} {ao : Option Addr} {l : List Nat} (h : NatsAt w ao l) (hb : Below w.heap.size w w') : NatsAt w' ao l := fun j hj => by
  obtain ⟨g, o, e, hc⟩ := h j hj
  exact ⟨g, o, e, (hb.cell (World.block_lt_of_cell? w _ hc)).trans hc⟩
theorem nats_of {w : World} {base : Nat} {ao : Option Addr} {n c : Nat} {l : List Nat} (h : w.ownsRow base 3 1 (.slice ao n c) l.length (natCells l)) : NatsAt w ao l := fun j hj => by
  obtain ⟨ao', c', e, _, _, hr0⟩ := Row.of_owns h
  injection e with e1 e2 e3
  subst e1
  obtain ⟨g, o, e4, hr⟩ := hr0 (fun h0 => by
    have : l = [] := List.map_eq_nil_iff.1 h0
    rw [this] at hj; simp at hj)
  refine ⟨g, o, e4, hr j _ ?_⟩
  simp [natCells, hj]
theorem next'_sl (g : Pg) (n : Int) : (g.next' n).sl = g.sl := by unfold Pg.next'; split <;> rfl
theorem next'_back {g : Pg} (h : Good g) (n : Int) : (g.next' n).next' (g.next : Int) = g := by
  have h1 := h.next
  have h2 : (0 : Int) ≤ (g.next : Int) ∧ (g.next : Int) ≤ 4294967295 := by omega
  have e : ∀ x : Pg, x.next' (g.next : Int) = ⟨g.next, x.sl⟩ := fun x => by
    unfold Pg.next'
    rw [if_pos h2, Int.toNat_natCast]
  rw [e, next'_sl]
set_option maxHeartbeats 8000000 in
set_option maxRecDepth 100000 in
theorem next_walk (a0 : Option Addr) (len0 cap0 : Nat) (B0 : Nat → List UInt8) (n del : Int) (w : World) (h0 : RowsIn w a0 len0 B0) (hd1 : -9223372036854775808 ≤ del) (hd2 : del ≤ 9223372036854775807) :
    Calls Try.prog 3 #[.slice a0 len0 cap0, .int .i64 n, .int .i64 del] w fun e w' => e = .returned (.bool true) ∧ Below w.heap.size w w' := by
  have H0 := hide h0
  have hl0 := h0.1
  clear h0
  have HN := hide (new_any w)
  go_enter Try.func3, Try.ntmps3
  go_wp2_with (go_at_call 8; refine HN.out.mono ?_; rintro e W1 ⟨q1, rfl, hs1, hb1⟩)
  have HS1 := hide hs1
  have HB1 := hide hb1
  clear HN hs1 hb1
  go_loopw [8, 7] (fun i p wr => ∃ (k : Nat) (g : Pg) (ap : Option Addr) (cp : Nat), k ≤ len0 ∧ i = .int .i64 (k : Int) ∧ p = .slice ap 504 cp ∧ Good g ∧ Sl wr (.slice ap 504 cp) g.enc ∧ Below w.heap.size w wr) (fun i _ _ => len0 - (intOf i).toNat)
  case atStart => exact ⟨0, Pg.zero, _, _, Nat.zero_le _, rfl, rfl, zero_good, HS1.out, HB1.out⟩
  case round =>
    obtain ⟨k, g, ap, cp, hk, rfl, rfl, hg, hp, hb⟩ := hrel
    have HG := hide hg
    have HP := hide hp
    have HB := hide hb
    clear hg hp hb HS1 HB1
    by_cases hlt : k < len0
    · by_cases h15 : k < 15
      · obtain ⟨b, o, ai, ci, rfl, hcell, hsl, hbl⟩ := rows_in H0.out HB.out k hlt
        have HD := hide hsl
        clear hsl
        by_cases hc : g.can (B0 k)
        · have HGP := hide (can_good HG.out hc)
          have HX := hide (put_ok HG.out HP.out HD.out hc)
          clear hc
          generalize hD : (B0 k).length = D at *
          generalize g.least = le at *
          go_wp2_with (go_at_call 9; refine HX.out.mono ?_; rintro e W3 ⟨ax, cx, rfl, hs3, hb3⟩)
          go_roundw
          case rel => exact ⟨k + 1, g.put (B0 k), _, _, by omega, by go_num, rfl, HGP.out, hs3, HB.out.trans (hb3.mono HB.out.size)⟩
          case measure => simp [intOf]; omega
        · have HX := hide (put_no HG.out HP.out HD.out hc)
          have hne := err_ne g (B0 k)
          clear hc
          generalize g.err (B0 k) = er at *
          generalize hD : (B0 k).length = D at *
          go_wp2_with (go_at_call 9; refine HX.out.mono ?_; rintro e W3 ⟨rfl, hb3⟩)
          go_roundw
          case rel => exact ⟨k + 1, g, _, _, by omega, by go_num, rfl, HG.out, HP.out.belowW hb3, HB.out.trans (hb3.mono HB.out.size)⟩
          case measure => simp [intOf]; omega
      · have hx1 : (k : Int) < (len0 : Int) := by omega
        have hx2 : ¬ ((k : Int) < 15) := by omega
        have HSN := hide (setNext_ok HG.out HP.out n)
        have HG2 := hide (next'_good HG.out n)
        have HSLQ : Hid ((g.next' n).sl = g.sl) := next'_sl g n
        have HNN : Hid ((g.next' n).next' (g.next : Int) = g) := next'_back HG.out n
        go_wp2_with fail
        refine HSN.out.mono ?_
        rintro e V1 ⟨aq, cq, rfl, hq1, hv1⟩
        have HQ1 := hide hq1
        have HP1 := hide (HP.out.belowW hv1)
        have HB1 := hide (HB.out.trans (hv1.mono HB.out.size))
        have HCP := run_str HP1.out
        have HCQ := run_str HQ1.out
        clear HSN hq1 hv1 HP HB
        by_cases hn : 0 ≤ n ∧ n ≤ 4294967295
        · have hng : (decide (0 ≤ n) && decide (n < 4294967296)) = true := by simp; omega
          have hn1 : 0 ≤ n := hn.1
          have hn2 : n < 4294967296 := by omega
          have HNX : Hid (((g.next' n).next : Int) = n) := by unfold Pg.next'; rw [Hid, if_pos hn]; simp; omega
          clear HCP HCQ hn
          have HX1 := hide (next_ok HG2.out HQ1.out)
          generalize hgg : g.next' n = g2 at *
          have hnx := HNX.out
          generalize hgn : g2.next = gn at *
          go_wp2_with fail
          refine HX1.out.mono ?_
          rintro e V2 ⟨rfl, hv2⟩
          have HQ2 := hide (HQ1.out.belowW hv2)
          have HP2 := hide (HP1.out.belowW hv2)
          have HB2 := hide (HB1.out.trans (hv2.mono HB1.out.size))
          have HX2 := hide (check_ok HG2.out HQ2.out)
          clear HX1 hv2 HQ1 HP1 HB1
          go_wp2_with fail
          refine HX2.out.mono ?_
          rintro e V3 ⟨rfl, hv3⟩
          have HQ3 := hide (HQ2.out.belowW hv3)
          have HP3 := hide (HP2.out.belowW hv3)
          have HB3 := hide (HB2.out.trans (hv3.mono HB2.out.size))
          have HX3 := hide (free_ok HG2.out HQ3.out)
          have HFR : Hid (g2.free = g.free) := by unfold Pg.free Pg.size; rw [Hid, HSLQ.out]
          rw [HFR.out] at HX3
          clear HX2 hv3 HQ2 HP2 HB2
          go_wp2_with fail
          refine HX3.out.mono ?_
          rintro e V4 ⟨rfl, hv4⟩
          have HQ4 := hide (HQ3.out.belowW hv4)
          have HP4 := hide (HP3.out.belowW hv4)
          have HB4 := hide (HB3.out.trans (hv4.mono HB3.out.size))
          have HX4 := hide (free_ok HG.out HP4.out)
          clear HX3 hv4 HQ3 HP3 HB3
          go_wp2_with fail
          refine HX4.out.mono ?_
          rintro e V5 ⟨rfl, hv5⟩
          have HQ5 := hide (HQ4.out.belowW hv5)
          have HP5 := hide (HP4.out.belowW hv5)
          have HB5 := hide (HB4.out.trans (hv5.mono HB4.out.size))
          have HX5 := hide (slots_ok HG2.out HQ5.out)
          have HSS : Hid (g2.slots = g.slots) := by unfold Pg.slots; rw [Hid, HSLQ.out]
          clear HX4 hv5 HQ4 HP4 HB4
          have hmb : g2.slots.length ≤ 1000 := by
            have h1 := slotsOf_len g2.sl 0
            have h2 := HG2.out.size
            simp only [Pg.size, tsize] at h2
            unfold Pg.slots
            omega
          generalize hml : g2.slots.length = ml at *
          go_wp2_with fail
          refine HX5.out.mono ?_
          rintro e V6 ⟨as6, cs6, rfl, _, hv6⟩
          have HQ6 := hide (HQ5.out.belowW hv6)
          have HP6 := hide (HP5.out.belowW hv6)
          have HB6 := hide (HB5.out.trans (hv6.mono HB5.out.size))
          have HX6 := hide (slots_ok HG.out HP6.out)
          rw [← HSS.out, hml] at HX6
          clear HX5 hv6 HQ5 HP5 HB5
          go_wp2_with fail
          refine HX6.out.mono ?_
          rintro e V7 ⟨as7, cs7, rfl, _, hv7⟩
          have HQ7 := hide (HQ6.out.belowW hv7)
          have HP7 := hide (HP6.out.belowW hv7)
          have HB7 := hide (HB6.out.trans (hv7.mono HB6.out.size))
          have HX7 := hide (slots_ok HG2.out HQ7.out)
          rw [hml] at HX7
          clear HX6 hv7 HQ6 HP6 HB6
          go_wp2_with (go_at_call 14; refine HX7.out.mono ?_; rintro e V8 ⟨ak, ck, rfl, hown, hv8⟩)
          have HQ8 := hide (HQ7.out.belowW hv8)
          have HP8 := hide (HP7.out.belowW hv8)
          have HB8 := hide (HB7.out.trans (hv8.mono HB7.out.size))
          have HNA : Hid (NatsAt V8 ak g2.slots) := nats_of (by rw [hml]; exact hown)
          clear HX7 hv8 hown HQ7 HP7 HB7
          go_loopw [15] (fun i wx => ∃ j : Nat, j ≤ ml ∧ i = .int .i64 (j : Int) ∧ NatsAt wx ak g2.slots ∧ Sl wx (.slice ap 504 cp) g.enc ∧ Sl wx (.slice aq 504 cq) g2.enc ∧ Below w.heap.size w wx) (fun i _ => ml - (intOf i).toNat)
          case atStart => exact ⟨0, Nat.zero_le _, rfl, HNA.out, HP8.out, HQ8.out, HB8.out⟩
          case round =>
            obtain ⟨j, hj, rfl, hna, hpx, hqx, hbx⟩ := hrel
            have HNX1 := hide hna
            have HPX := hide hpx
            have HQX := hide hqx
            have HBX := hide hbx
            clear hna hpx hqx hbx HNA HP8 HQ8 HB8
            by_cases hjl : j < ml
            · obtain ⟨d, hd⟩ := slots_get g2 j (by rw [hml]; exact hjl)
              have hdp : g.sl.getD (g2.slots.getD j 0) none = some d := by rw [← HSLQ.out]; exact hd
              obtain ⟨gk, ok, rfl, kcell⟩ := HNX1.out j (by rw [hml]; exact hjl)
              have HY1 := hide (get_ok HG.out HPX.out hdp)
              have HD2 := hide hd
              clear hd hdp
              generalize g2.slots.getD j 0 = sj at *
              go_wp2_with fail
              refine HY1.out.mono ?_
              rintro e U1 ⟨ax1, cx1, rfl, hx1s, hu1⟩
              have kcell1 := (hu1.cell (World.block_lt_of_cell? wr _ kcell)).trans kcell
              have HN1 := hide (HNX1.out.below hu1)
              have HP1u := hide (HPX.out.belowW hu1)
              have HQ1u := hide (HQX.out.belowW hu1)
              have HB1u := hide (HBX.out.trans (hu1.mono HBX.out.size))
              have HX1s := hide hx1s
              have HY2 := hide (get_ok HG2.out HQ1u.out HD2.out)
              clear HY1 hu1 hx1s HPX HQX HBX HNX1
              go_wp2_with fail
              refine HY2.out.mono ?_
              rintro e U2 ⟨ax2, cx2, rfl, hx2s, hu2⟩
              have cv1 := run_str (HX1s.out.belowW hu2)
              have cv2 := run_str hx2s
              have HN2 := hide (HN1.out.below hu2)
              have HP2u := hide (HP1u.out.belowW hu2)
              have HQ2u := hide (HQ1u.out.belowW hu2)
              have HB2u := hide (HB1u.out.trans (hu2.mono HB1u.out.size))
              clear HY2 hu2 hx2s
              generalize strOf d = sd at *
              go_wp2
              go_roundw
              case rel => exact ⟨j + 1, by omega, by go_num, HN2.out, HP2u.out, HQ2u.out, HB2u.out⟩
              case measure => simp [intOf]; omega
            · have hjm : j = ml := by omega
              subst hjm
              by_cases hm0 : 0 < j
              · obtain ⟨c, hcl, hce⟩ := cut_of del j hm0
                have ht1 := tmod_low del j hm0
                have ht2 := tmod_high del j hm0
                obtain ⟨d, hd⟩ := slots_get g2 c (by rw [hml]; exact hcl)
                obtain ⟨gk, ok, rfl, kcell⟩ := HNX1.out c (by rw [hml]; exact hcl)
                have HY1 := hide (del_ok HG2.out HQX.out hd)
                have HGD := hide (del_good HG2.out (g2.slots.getD c 0))
                have HDN : Hid ((g2.del (g2.slots.getD c 0)).next = gn) := hgn
                generalize g2.slots.getD c 0 = sc at *
                clear hd
                have hmI : (0 : Int) < (j : Int) := by omega
                go_wp2_with fail
                refine HY1.out.mono ?_
                rintro e U1 ⟨ar, cr, rfl, hr1, hu1⟩
                have HP1u := hide (HPX.out.belowW hu1)
                have HQ1u := hide (HQX.out.belowW hu1)
                have HB1u := hide (HBX.out.trans (hu1.mono HBX.out.size))
                have HY2 := hide (next_ok HGD.out hr1)
                rw [HDN.out] at HY2
                clear HY1 hu1 hr1 HPX HQX HBX kcell hce ht1 ht2
                go_wp2_with fail
                refine HY2.out.mono ?_
                rintro e U2 ⟨rfl, hu2⟩
                have HPU := hide (HP1u.out.belowW hu2)
                have HQU := hide (HQ1u.out.belowW hu2)
                have HBU := hide (HB1u.out.trans (hu2.mono HB1u.out.size))
                have HY3 := hide (next_ok HG2.out HQU.out)
                rw [hgn] at HY3
                clear HY2 hu2
                go_wp2_with (go_at_call 11; refine HY3.out.mono ?_; rintro e U3 ⟨rfl, hu3⟩)
                have HPE := hide (HPU.out.belowW hu3)
                have HQE := hide (HQU.out.belowW hu3)
                have HBE := hide (HBU.out.trans (hu3.mono HBU.out.size))
                clear HY3 hu3 HPU HQU HBU HP1u HQ1u HB1u
                generalize U3 = WE at *
                refine wp_region_held_drew (S := fun w' => Sl w' (.slice ap 504 cp) g.enc) (by kernel_rfl) (HPE.out.belowW (below_drewN _ _ 1)) (fun hH => ?_)
                refine take_to 0 158 (.slice aq 504 cq) rfl (by kernel_rfl) (by kernel_rfl) (by kernel_rfl) (fun _ _ _ h => h) rfl (by rfl) (fun w hw => by rfl) hH ?_
                simp only [Act.put, List.setIfInBounds_toArray, List.set_cons_zero, List.set_cons_succ]
                refine take_to 1 159 (.slice ap 504 cp) rfl (by kernel_rfl) (by kernel_rfl) (by kernel_rfl) (fun _ _ _ h => h) rfl (by rfl) (fun w hw => by rfl) hH ?_
                simp only [Act.put, List.setIfInBounds_toArray, List.set_cons_zero, List.set_cons_succ]
                refine take_to 5 163 (.slice ap 504 cp) rfl (by kernel_rfl) (by kernel_rfl) (by kernel_rfl) (fun _ _ _ h => h) rfl (by rfl) (fun w hw => by rfl) hH ?_
                simp only [Act.put, List.setIfInBounds_toArray, List.set_cons_zero, List.set_cons_succ]
                refine take_to 6 164 (.string (strOf g.enc)) rfl (by kernel_rfl) (by kernel_rfl) (by kernel_rfl) (fun _ _ _ h => h) rfl (by rfl) (fun w hw => op_conv _ _ 23 9 (.tmp 163) rfl _ _ rfl (run_str hw)) hH ?_
                simp only [Act.put, List.setIfInBounds_toArray, List.set_cons_zero, List.set_cons_succ]
                refine step_call1_to 2 160 11 rfl (by kernel_rfl) rfl (by rfl) (.tmp 159) _ rfl _ rfl Try.enters11 (next_ok HG.out hH) ?_
                rintro e Z1 ⟨rfl, hz1⟩
                have hp1 : Sl Z1 (.slice ap 504 cp) g.enc := hH.belowW hz1
                have hq1 : Sl Z1 (.slice aq 504 cq) g2.enc := (HQE.out.belowW (below_drewN _ _ 1)).belowW hz1
                refine ⟨_, rfl, hp1, ?_⟩
                simp only [Act.put, List.setIfInBounds_toArray, List.set_cons_zero, List.set_cons_succ]
                refine step_call2_to 3 161 10 rfl (by kernel_rfl) rfl (by rfl) (.tmp 158) (.tmp 160) _ rfl _ _ rfl rfl Try.enters10 (setNext_ok HG2.out hq1 (g.next : Int)) ?_
                rintro e Z2 ⟨az, cz, rfl, hz2s, hz2⟩
                have hp2 : Sl Z2 (.slice ap 504 cp) g.enc := hp1.belowW hz2
                rw [HNN.out] at hz2s
                refine ⟨_, rfl, hp2, ?_⟩
                simp only [Act.put, List.setIfInBounds_toArray, List.set_cons_zero, List.set_cons_succ]
                refine step_to 4 162 (.string (strOf g.enc)) Z2 rfl (by kernel_rfl) rfl (by rfl) (op_conv _ _ 23 9 (.tmp 161) rfl _ _ rfl (run_str hz2s)) hp2 ?_
                simp only [Act.put, List.setIfInBounds_toArray, List.set_cons_zero, List.set_cons_succ]
                refine step_to 7 165 (.bool true) Z2 rfl (by kernel_rfl) rfl (by rfl) (op_eql9 _ _ (.tmp 162) (.tmp 164) 9 rfl _ rfl rfl) hp2 ?_
                simp only [Act.put, List.setIfInBounds_toArray, List.set_cons_zero, List.set_cons_succ]
                refine step_to 8 166 (.bool true) Z2 rfl (by kernel_rfl) rfl (by rfl) (rfl) hp2 ?_
                simp only [Act.put, List.setIfInBounds_toArray, List.set_cons_zero, List.set_cons_succ]
                refine step_call0_to 9 167 17 rfl (by kernel_rfl) rfl (by rfl) _ rfl Try.enters17 (awake_any Z2) ?_
                rintro e Z3 ⟨rfl, hz3⟩
                have hp3 : Sl Z3 (.slice ap 504 cp) g.enc := hp2.belowW hz3
                refine ⟨_, rfl, hp3, ?_⟩
                simp only [Act.put, List.setIfInBounds_toArray, List.set_cons_zero, List.set_cons_succ]
                refine step_to 10 168 (.bool true) Z3 rfl (by kernel_rfl) rfl (by rfl) (rfl) hp3 ?_
                simp only [Act.put, List.setIfInBounds_toArray, List.set_cons_zero, List.set_cons_succ]
                refine step_to 11 6 (.bool true) Z3 rfl (by kernel_rfl) rfl (by rfl) (rfl) hp3 ?_
                simp only [Act.put, List.setIfInBounds_toArray, List.set_cons_zero, List.set_cons_succ]
                refine wpAnyH_done (by kernel_rfl) ?_ _
                go_wp2
                go_ret
                have t0 := HBE.out.size
                have t1 : WE.heap.size ≤ Z1.heap.size := hz1.size
                have t2 := hz2.size
                exact ⟨rfl, (((HBE.out.trans (below_drewN _ _ 1)).trans (hz1.mono (by show _ ≤ WE.heap.size; omega))).trans (hz2.mono (by omega))).trans (hz3.mono (by omega))⟩
              · have hj0 : j = 0 := by omega
                have hmI : ¬ ((0 : Int) < (j : Int)) := by omega
                have HPE := hide HPX.out
                have HQE := hide HQX.out
                have HBE := hide HBX.out
                clear HPX HQX HBX HNX1
                go_wp2
                generalize wr = WE at *
                refine wp_region_held_drew (S := fun w' => Sl w' (.slice ap 504 cp) g.enc) (by kernel_rfl) (HPE.out.belowW (below_drewN _ _ 1)) (fun hH => ?_)
                refine take_to 0 158 (.slice aq 504 cq) rfl (by kernel_rfl) (by kernel_rfl) (by kernel_rfl) (fun _ _ _ h => h) rfl (by rfl) (fun w hw => by rfl) hH ?_
                simp only [Act.put, List.setIfInBounds_toArray, List.set_cons_zero, List.set_cons_succ]
                refine take_to 1 159 (.slice ap 504 cp) rfl (by kernel_rfl) (by kernel_rfl) (by kernel_rfl) (fun _ _ _ h => h) rfl (by rfl) (fun w hw => by rfl) hH ?_
                simp only [Act.put, List.setIfInBounds_toArray, List.set_cons_zero, List.set_cons_succ]
                refine take_to 5 163 (.slice ap 504 cp) rfl (by kernel_rfl) (by kernel_rfl) (by kernel_rfl) (fun _ _ _ h => h) rfl (by rfl) (fun w hw => by rfl) hH ?_
                simp only [Act.put, List.setIfInBounds_toArray, List.set_cons_zero, List.set_cons_succ]
                refine take_to 6 164 (.string (strOf g.enc)) rfl (by kernel_rfl) (by kernel_rfl) (by kernel_rfl) (fun _ _ _ h => h) rfl (by rfl) (fun w hw => op_conv _ _ 23 9 (.tmp 163) rfl _ _ rfl (run_str hw)) hH ?_
                simp only [Act.put, List.setIfInBounds_toArray, List.set_cons_zero, List.set_cons_succ]
                refine step_call1_to 2 160 11 rfl (by kernel_rfl) rfl (by rfl) (.tmp 159) _ rfl _ rfl Try.enters11 (next_ok HG.out hH) ?_
                rintro e Z1 ⟨rfl, hz1⟩
                have hp1 : Sl Z1 (.slice ap 504 cp) g.enc := hH.belowW hz1
                have hq1 : Sl Z1 (.slice aq 504 cq) g2.enc := (HQE.out.belowW (below_drewN _ _ 1)).belowW hz1
                refine ⟨_, rfl, hp1, ?_⟩
                simp only [Act.put, List.setIfInBounds_toArray, List.set_cons_zero, List.set_cons_succ]
                refine step_call2_to 3 161 10 rfl (by kernel_rfl) rfl (by rfl) (.tmp 158) (.tmp 160) _ rfl _ _ rfl rfl Try.enters10 (setNext_ok HG2.out hq1 (g.next : Int)) ?_
                rintro e Z2 ⟨az, cz, rfl, hz2s, hz2⟩
                have hp2 : Sl Z2 (.slice ap 504 cp) g.enc := hp1.belowW hz2
                rw [HNN.out] at hz2s
                refine ⟨_, rfl, hp2, ?_⟩
                simp only [Act.put, List.setIfInBounds_toArray, List.set_cons_zero, List.set_cons_succ]
                refine step_to 4 162 (.string (strOf g.enc)) Z2 rfl (by kernel_rfl) rfl (by rfl) (op_conv _ _ 23 9 (.tmp 161) rfl _ _ rfl (run_str hz2s)) hp2 ?_
                simp only [Act.put, List.setIfInBounds_toArray, List.set_cons_zero, List.set_cons_succ]
                refine step_to 7 165 (.bool true) Z2 rfl (by kernel_rfl) rfl (by rfl) (op_eql9 _ _ (.tmp 162) (.tmp 164) 9 rfl _ rfl rfl) hp2 ?_
                simp only [Act.put, List.setIfInBounds_toArray, List.set_cons_zero, List.set_cons_succ]
                refine step_to 8 166 (.bool true) Z2 rfl (by kernel_rfl) rfl (by rfl) (rfl) hp2 ?_
                simp only [Act.put, List.setIfInBounds_toArray, List.set_cons_zero, List.set_cons_succ]
                refine step_call0_to 9 167 17 rfl (by kernel_rfl) rfl (by rfl) _ rfl Try.enters17 (awake_any Z2) ?_
                rintro e Z3 ⟨rfl, hz3⟩
                have hp3 : Sl Z3 (.slice ap 504 cp) g.enc := hp2.belowW hz3
                refine ⟨_, rfl, hp3, ?_⟩
                simp only [Act.put, List.setIfInBounds_toArray, List.set_cons_zero, List.set_cons_succ]
                refine step_to 10 168 (.bool true) Z3 rfl (by kernel_rfl) rfl (by rfl) (rfl) hp3 ?_
                simp only [Act.put, List.setIfInBounds_toArray, List.set_cons_zero, List.set_cons_succ]
                refine step_to 11 6 (.bool true) Z3 rfl (by kernel_rfl) rfl (by rfl) (rfl) hp3 ?_
                simp only [Act.put, List.setIfInBounds_toArray, List.set_cons_zero, List.set_cons_succ]
                refine wpAnyH_done (by kernel_rfl) ?_ _
                go_wp2
                go_ret
                have t0 := HBE.out.size
                have t1 : WE.heap.size ≤ Z1.heap.size := hz1.size
                have t2 := hz2.size
                exact ⟨rfl, (((HBE.out.trans (below_drewN _ _ 1)).trans (hz1.mono (by show _ ≤ WE.heap.size; omega))).trans (hz2.mono (by omega))).trans (hz3.mono (by omega))⟩
        · have HNX : Hid (¬ (((g.next' n).next : Int) = n)) := by
            have := HG.out.next
            unfold Pg.next'
            rw [Hid, if_neg hn]
            omega
          have HEQ : Hid (g.next' n = g) := by unfold Pg.next'; rw [Hid, if_neg hn]
          rw [HEQ.out] at HCQ
          by_cases hn1 : n < 0
          · have hn1' : ¬ (0 ≤ n) := by omega
            generalize strOf g.enc = st at *
            clear hn
            have HX1 := hide (next_ok HG2.out HQ1.out)
            generalize hgg : g.next' n = g2 at *
            have hnx := HNX.out
            generalize hgn : g2.next = gn at *
            go_wp2_with fail
            refine HX1.out.mono ?_
            rintro e V2 ⟨rfl, hv2⟩
            have HQ2 := hide (HQ1.out.belowW hv2)
            have HP2 := hide (HP1.out.belowW hv2)
            have HB2 := hide (HB1.out.trans (hv2.mono HB1.out.size))
            have HCP2 : (convert 23 9 (.slice ap 504 cp)).run Try.prog V2 = .ok (.string (strOf g.enc)) V2 := run_str HP2.out
            have HCQ2 : (convert 23 9 (.slice aq 504 cq)).run Try.prog V2 = .ok (.string (strOf g2.enc)) V2 := run_str HQ2.out
            rw [HEQ.out] at HCQ2
            generalize strOf g.enc = st2 at *
            have HX2 := hide (check_ok HG2.out HQ2.out)
            clear HX1 hv2 HQ1 HP1 HB1
            go_wp2_with fail
            refine HX2.out.mono ?_
            rintro e V3 ⟨rfl, hv3⟩
            have HQ3 := hide (HQ2.out.belowW hv3)
            have HP3 := hide (HP2.out.belowW hv3)
            have HB3 := hide (HB2.out.trans (hv3.mono HB2.out.size))
            have HX3 := hide (free_ok HG2.out HQ3.out)
            have HFR : Hid (g2.free = g.free) := by unfold Pg.free Pg.size; rw [Hid, HSLQ.out]
            rw [HFR.out] at HX3
            clear HX2 hv3 HQ2 HP2 HB2 HCP2 HCQ2
            go_wp2_with fail
            refine HX3.out.mono ?_
            rintro e V4 ⟨rfl, hv4⟩
            have HQ4 := hide (HQ3.out.belowW hv4)
            have HP4 := hide (HP3.out.belowW hv4)
            have HB4 := hide (HB3.out.trans (hv4.mono HB3.out.size))
            have HX4 := hide (free_ok HG.out HP4.out)
            clear HX3 hv4 HQ3 HP3 HB3
            go_wp2_with fail
            refine HX4.out.mono ?_
            rintro e V5 ⟨rfl, hv5⟩
            have HQ5 := hide (HQ4.out.belowW hv5)
            have HP5 := hide (HP4.out.belowW hv5)
            have HB5 := hide (HB4.out.trans (hv5.mono HB4.out.size))
            have HX5 := hide (slots_ok HG2.out HQ5.out)
            have HSS : Hid (g2.slots = g.slots) := by unfold Pg.slots; rw [Hid, HSLQ.out]
            clear HX4 hv5 HQ4 HP4 HB4
            have hmb : g2.slots.length ≤ 1000 := by
              have h1 := slotsOf_len g2.sl 0
              have h2 := HG2.out.size
              simp only [Pg.size, tsize] at h2
              unfold Pg.slots
              omega
            generalize hml : g2.slots.length = ml at *
            go_wp2_with fail
            refine HX5.out.mono ?_
            rintro e V6 ⟨as6, cs6, rfl, _, hv6⟩
            have HQ6 := hide (HQ5.out.belowW hv6)
            have HP6 := hide (HP5.out.belowW hv6)
            have HB6 := hide (HB5.out.trans (hv6.mono HB5.out.size))
            have HX6 := hide (slots_ok HG.out HP6.out)
            rw [← HSS.out, hml] at HX6
            clear HX5 hv6 HQ5 HP5 HB5
            go_wp2_with fail
            refine HX6.out.mono ?_
            rintro e V7 ⟨as7, cs7, rfl, _, hv7⟩
            have HQ7 := hide (HQ6.out.belowW hv7)
            have HP7 := hide (HP6.out.belowW hv7)
            have HB7 := hide (HB6.out.trans (hv7.mono HB6.out.size))
            have HX7 := hide (slots_ok HG2.out HQ7.out)
            rw [hml] at HX7
            clear HX6 hv7 HQ6 HP6 HB6
            go_wp2_with (go_at_call 14; refine HX7.out.mono ?_; rintro e V8 ⟨ak, ck, rfl, hown, hv8⟩)
            have HQ8 := hide (HQ7.out.belowW hv8)
            have HP8 := hide (HP7.out.belowW hv8)
            have HB8 := hide (HB7.out.trans (hv8.mono HB7.out.size))
            have HNA : Hid (NatsAt V8 ak g2.slots) := nats_of (by rw [hml]; exact hown)
            clear HX7 hv8 hown HQ7 HP7 HB7
            go_loopw [15] (fun i wx => ∃ j : Nat, j ≤ ml ∧ i = .int .i64 (j : Int) ∧ NatsAt wx ak g2.slots ∧ Sl wx (.slice ap 504 cp) g.enc ∧ Sl wx (.slice aq 504 cq) g2.enc ∧ Below w.heap.size w wx) (fun i _ => ml - (intOf i).toNat)
            case atStart => exact ⟨0, Nat.zero_le _, rfl, HNA.out, HP8.out, HQ8.out, HB8.out⟩
            case round =>
              obtain ⟨j, hj, rfl, hna, hpx, hqx, hbx⟩ := hrel
              have HNX1 := hide hna
              have HPX := hide hpx
              have HQX := hide hqx
              have HBX := hide hbx
              clear hna hpx hqx hbx HNA HP8 HQ8 HB8
              by_cases hjl : j < ml
              · obtain ⟨d, hd⟩ := slots_get g2 j (by rw [hml]; exact hjl)
                have hdp : g.sl.getD (g2.slots.getD j 0) none = some d := by rw [← HSLQ.out]; exact hd
                obtain ⟨gk, ok, rfl, kcell⟩ := HNX1.out j (by rw [hml]; exact hjl)
                have HY1 := hide (get_ok HG.out HPX.out hdp)
                have HD2 := hide hd
                clear hd hdp
                generalize g2.slots.getD j 0 = sj at *
                go_wp2_with fail
                refine HY1.out.mono ?_
                rintro e U1 ⟨ax1, cx1, rfl, hx1s, hu1⟩
                have kcell1 := (hu1.cell (World.block_lt_of_cell? wr _ kcell)).trans kcell
                have HN1 := hide (HNX1.out.below hu1)
                have HP1u := hide (HPX.out.belowW hu1)
                have HQ1u := hide (HQX.out.belowW hu1)
                have HB1u := hide (HBX.out.trans (hu1.mono HBX.out.size))
                have HX1s := hide hx1s
                have HY2 := hide (get_ok HG2.out HQ1u.out HD2.out)
                clear HY1 hu1 hx1s HPX HQX HBX HNX1
                go_wp2_with fail
                refine HY2.out.mono ?_
                rintro e U2 ⟨ax2, cx2, rfl, hx2s, hu2⟩
                have cv1 := run_str (HX1s.out.belowW hu2)
                have cv2 := run_str hx2s
                have HN2 := hide (HN1.out.below hu2)
                have HP2u := hide (HP1u.out.belowW hu2)
                have HQ2u := hide (HQ1u.out.belowW hu2)
                have HB2u := hide (HB1u.out.trans (hu2.mono HB1u.out.size))
                clear HY2 hu2 hx2s
                generalize strOf d = sd at *
                go_wp2
                go_roundw
                case rel => exact ⟨j + 1, by omega, by go_num, HN2.out, HP2u.out, HQ2u.out, HB2u.out⟩
                case measure => simp [intOf]; omega
              · have hjm : j = ml := by omega
                subst hjm
                by_cases hm0 : 0 < j
                · obtain ⟨c, hcl, hce⟩ := cut_of del j hm0
                  have ht1 := tmod_low del j hm0
                  have ht2 := tmod_high del j hm0
                  obtain ⟨d, hd⟩ := slots_get g2 c (by rw [hml]; exact hcl)
                  obtain ⟨gk, ok, rfl, kcell⟩ := HNX1.out c (by rw [hml]; exact hcl)
                  have HY1 := hide (del_ok HG2.out HQX.out hd)
                  have HGD := hide (del_good HG2.out (g2.slots.getD c 0))
                  have HDN : Hid ((g2.del (g2.slots.getD c 0)).next = gn) := hgn
                  generalize g2.slots.getD c 0 = sc at *
                  clear hd
                  have hmI : (0 : Int) < (j : Int) := by omega
                  go_wp2_with fail
                  refine HY1.out.mono ?_
                  rintro e U1 ⟨ar, cr, rfl, hr1, hu1⟩
                  have HP1u := hide (HPX.out.belowW hu1)
                  have HQ1u := hide (HQX.out.belowW hu1)
                  have HB1u := hide (HBX.out.trans (hu1.mono HBX.out.size))
                  have HY2 := hide (next_ok HGD.out hr1)
                  rw [HDN.out] at HY2
                  clear HY1 hu1 hr1 HPX HQX HBX kcell hce ht1 ht2
                  go_wp2_with fail
                  refine HY2.out.mono ?_
                  rintro e U2 ⟨rfl, hu2⟩
                  have HPU := hide (HP1u.out.belowW hu2)
                  have HQU := hide (HQ1u.out.belowW hu2)
                  have HBU := hide (HB1u.out.trans (hu2.mono HB1u.out.size))
                  have HY3 := hide (next_ok HG2.out HQU.out)
                  rw [hgn] at HY3
                  clear HY2 hu2
                  go_wp2_with (go_at_call 11; refine HY3.out.mono ?_; rintro e U3 ⟨rfl, hu3⟩)
                  have HPE := hide (HPU.out.belowW hu3)
                  have HQE := hide (HQU.out.belowW hu3)
                  have HBE := hide (HBU.out.trans (hu3.mono HBU.out.size))
                  clear HY3 hu3 HPU HQU HBU HP1u HQ1u HB1u
                  generalize U3 = WE at *
                  refine wp_region_held_drew (S := fun w' => Sl w' (.slice ap 504 cp) g.enc) (by kernel_rfl) (HPE.out.belowW (below_drewN _ _ 1)) (fun hH => ?_)
                  refine take_to 0 158 (.slice aq 504 cq) rfl (by kernel_rfl) (by kernel_rfl) (by kernel_rfl) (fun _ _ _ h => h) rfl (by rfl) (fun w hw => by rfl) hH ?_
                  simp only [Act.put, List.setIfInBounds_toArray, List.set_cons_zero, List.set_cons_succ]
                  refine take_to 1 159 (.slice ap 504 cp) rfl (by kernel_rfl) (by kernel_rfl) (by kernel_rfl) (fun _ _ _ h => h) rfl (by rfl) (fun w hw => by rfl) hH ?_
                  simp only [Act.put, List.setIfInBounds_toArray, List.set_cons_zero, List.set_cons_succ]
                  refine take_to 5 163 (.slice ap 504 cp) rfl (by kernel_rfl) (by kernel_rfl) (by kernel_rfl) (fun _ _ _ h => h) rfl (by rfl) (fun w hw => by rfl) hH ?_
                  simp only [Act.put, List.setIfInBounds_toArray, List.set_cons_zero, List.set_cons_succ]
                  refine take_to 6 164 (.string (strOf g.enc)) rfl (by kernel_rfl) (by kernel_rfl) (by kernel_rfl) (fun _ _ _ h => h) rfl (by rfl) (fun w hw => op_conv _ _ 23 9 (.tmp 163) rfl _ _ rfl (run_str hw)) hH ?_
                  simp only [Act.put, List.setIfInBounds_toArray, List.set_cons_zero, List.set_cons_succ]
                  refine step_call1_to 2 160 11 rfl (by kernel_rfl) rfl (by rfl) (.tmp 159) _ rfl _ rfl Try.enters11 (next_ok HG.out hH) ?_
                  rintro e Z1 ⟨rfl, hz1⟩
                  have hp1 : Sl Z1 (.slice ap 504 cp) g.enc := hH.belowW hz1
                  have hq1 : Sl Z1 (.slice aq 504 cq) g2.enc := (HQE.out.belowW (below_drewN _ _ 1)).belowW hz1
                  refine ⟨_, rfl, hp1, ?_⟩
                  simp only [Act.put, List.setIfInBounds_toArray, List.set_cons_zero, List.set_cons_succ]
                  refine step_call2_to 3 161 10 rfl (by kernel_rfl) rfl (by rfl) (.tmp 158) (.tmp 160) _ rfl _ _ rfl rfl Try.enters10 (setNext_ok HG2.out hq1 (g.next : Int)) ?_
                  rintro e Z2 ⟨az, cz, rfl, hz2s, hz2⟩
                  have hp2 : Sl Z2 (.slice ap 504 cp) g.enc := hp1.belowW hz2
                  rw [HNN.out] at hz2s
                  refine ⟨_, rfl, hp2, ?_⟩
                  simp only [Act.put, List.setIfInBounds_toArray, List.set_cons_zero, List.set_cons_succ]
                  refine step_to 4 162 (.string (strOf g.enc)) Z2 rfl (by kernel_rfl) rfl (by rfl) (op_conv _ _ 23 9 (.tmp 161) rfl _ _ rfl (run_str hz2s)) hp2 ?_
                  simp only [Act.put, List.setIfInBounds_toArray, List.set_cons_zero, List.set_cons_succ]
                  refine step_to 7 165 (.bool true) Z2 rfl (by kernel_rfl) rfl (by rfl) (op_eql9 _ _ (.tmp 162) (.tmp 164) 9 rfl _ rfl rfl) hp2 ?_
                  simp only [Act.put, List.setIfInBounds_toArray, List.set_cons_zero, List.set_cons_succ]
                  refine step_to 8 166 (.bool true) Z2 rfl (by kernel_rfl) rfl (by rfl) (rfl) hp2 ?_
                  simp only [Act.put, List.setIfInBounds_toArray, List.set_cons_zero, List.set_cons_succ]
                  refine step_call0_to 9 167 17 rfl (by kernel_rfl) rfl (by rfl) _ rfl Try.enters17 (awake_any Z2) ?_
                  rintro e Z3 ⟨rfl, hz3⟩
                  have hp3 : Sl Z3 (.slice ap 504 cp) g.enc := hp2.belowW hz3
                  refine ⟨_, rfl, hp3, ?_⟩
                  simp only [Act.put, List.setIfInBounds_toArray, List.set_cons_zero, List.set_cons_succ]
                  refine step_to 10 168 (.bool true) Z3 rfl (by kernel_rfl) rfl (by rfl) (rfl) hp3 ?_
                  simp only [Act.put, List.setIfInBounds_toArray, List.set_cons_zero, List.set_cons_succ]
                  refine step_to 11 6 (.bool true) Z3 rfl (by kernel_rfl) rfl (by rfl) (rfl) hp3 ?_
                  simp only [Act.put, List.setIfInBounds_toArray, List.set_cons_zero, List.set_cons_succ]
                  refine wpAnyH_done (by kernel_rfl) ?_ _
                  go_wp2
                  go_ret
                  have t0 := HBE.out.size
                  have t1 : WE.heap.size ≤ Z1.heap.size := hz1.size
                  have t2 := hz2.size
                  exact ⟨rfl, (((HBE.out.trans (below_drewN _ _ 1)).trans (hz1.mono (by show _ ≤ WE.heap.size; omega))).trans (hz2.mono (by omega))).trans (hz3.mono (by omega))⟩
                · have hj0 : j = 0 := by omega
                  have hmI : ¬ ((0 : Int) < (j : Int)) := by omega
                  have HPE := hide HPX.out
                  have HQE := hide HQX.out
                  have HBE := hide HBX.out
                  clear HPX HQX HBX HNX1
                  go_wp2
                  generalize wr = WE at *
                  refine wp_region_held_drew (S := fun w' => Sl w' (.slice ap 504 cp) g.enc) (by kernel_rfl) (HPE.out.belowW (below_drewN _ _ 1)) (fun hH => ?_)
                  refine take_to 0 158 (.slice aq 504 cq) rfl (by kernel_rfl) (by kernel_rfl) (by kernel_rfl) (fun _ _ _ h => h) rfl (by rfl) (fun w hw => by rfl) hH ?_
                  simp only [Act.put, List.setIfInBounds_toArray, List.set_cons_zero, List.set_cons_succ]
                  refine take_to 1 159 (.slice ap 504 cp) rfl (by kernel_rfl) (by kernel_rfl) (by kernel_rfl) (fun _ _ _ h => h) rfl (by rfl) (fun w hw => by rfl) hH ?_
                  simp only [Act.put, List.setIfInBounds_toArray, List.set_cons_zero, List.set_cons_succ]
                  refine take_to 5 163 (.slice ap 504 cp) rfl (by kernel_rfl) (by kernel_rfl) (by kernel_rfl) (fun _ _ _ h => h) rfl (by rfl) (fun w hw => by rfl) hH ?_
                  simp only [Act.put, List.setIfInBounds_toArray, List.set_cons_zero, List.set_cons_succ]
                  refine take_to 6 164 (.string (strOf g.enc)) rfl (by kernel_rfl) (by kernel_rfl) (by kernel_rfl) (fun _ _ _ h => h) rfl (by rfl) (fun w hw => op_conv _ _ 23 9 (.tmp 163) rfl _ _ rfl (run_str hw)) hH ?_
                  simp only [Act.put, List.setIfInBounds_toArray, List.set_cons_zero, List.set_cons_succ]
                  refine step_call1_to 2 160 11 rfl (by kernel_rfl) rfl (by rfl) (.tmp 159) _ rfl _ rfl Try.enters11 (next_ok HG.out hH) ?_
                  rintro e Z1 ⟨rfl, hz1⟩
                  have hp1 : Sl Z1 (.slice ap 504 cp) g.enc := hH.belowW hz1
                  have hq1 : Sl Z1 (.slice aq 504 cq) g2.enc := (HQE.out.belowW (below_drewN _ _ 1)).belowW hz1
                  refine ⟨_, rfl, hp1, ?_⟩
                  simp only [Act.put, List.setIfInBounds_toArray, List.set_cons_zero, List.set_cons_succ]
                  refine step_call2_to 3 161 10 rfl (by kernel_rfl) rfl (by rfl) (.tmp 158) (.tmp 160) _ rfl _ _ rfl rfl Try.enters10 (setNext_ok HG2.out hq1 (g.next : Int)) ?_
                  rintro e Z2 ⟨az, cz, rfl, hz2s, hz2⟩
                  have hp2 : Sl Z2 (.slice ap 504 cp) g.enc := hp1.belowW hz2
                  rw [HNN.out] at hz2s
                  refine ⟨_, rfl, hp2, ?_⟩
                  simp only [Act.put, List.setIfInBounds_toArray, List.set_cons_zero, List.set_cons_succ]
                  refine step_to 4 162 (.string (strOf g.enc)) Z2 rfl (by kernel_rfl) rfl (by rfl) (op_conv _ _ 23 9 (.tmp 161) rfl _ _ rfl (run_str hz2s)) hp2 ?_
                  simp only [Act.put, List.setIfInBounds_toArray, List.set_cons_zero, List.set_cons_succ]
                  refine step_to 7 165 (.bool true) Z2 rfl (by kernel_rfl) rfl (by rfl) (op_eql9 _ _ (.tmp 162) (.tmp 164) 9 rfl _ rfl rfl) hp2 ?_
                  simp only [Act.put, List.setIfInBounds_toArray, List.set_cons_zero, List.set_cons_succ]
                  refine step_to 8 166 (.bool true) Z2 rfl (by kernel_rfl) rfl (by rfl) (rfl) hp2 ?_
                  simp only [Act.put, List.setIfInBounds_toArray, List.set_cons_zero, List.set_cons_succ]
                  refine step_call0_to 9 167 17 rfl (by kernel_rfl) rfl (by rfl) _ rfl Try.enters17 (awake_any Z2) ?_
                  rintro e Z3 ⟨rfl, hz3⟩
                  have hp3 : Sl Z3 (.slice ap 504 cp) g.enc := hp2.belowW hz3
                  refine ⟨_, rfl, hp3, ?_⟩
                  simp only [Act.put, List.setIfInBounds_toArray, List.set_cons_zero, List.set_cons_succ]
                  refine step_to 10 168 (.bool true) Z3 rfl (by kernel_rfl) rfl (by rfl) (rfl) hp3 ?_
                  simp only [Act.put, List.setIfInBounds_toArray, List.set_cons_zero, List.set_cons_succ]
                  refine step_to 11 6 (.bool true) Z3 rfl (by kernel_rfl) rfl (by rfl) (rfl) hp3 ?_
                  simp only [Act.put, List.setIfInBounds_toArray, List.set_cons_zero, List.set_cons_succ]
                  refine wpAnyH_done (by kernel_rfl) ?_ _
                  go_wp2
                  go_ret
                  have t0 := HBE.out.size
                  have t1 : WE.heap.size ≤ Z1.heap.size := hz1.size
                  have t2 := hz2.size
                  exact ⟨rfl, (((HBE.out.trans (below_drewN _ _ 1)).trans (hz1.mono (by show _ ≤ WE.heap.size; omega))).trans (hz2.mono (by omega))).trans (hz3.mono (by omega))⟩
          · have hn2 : ¬ (n < 4294967296) := by omega
            have hn1' : 0 ≤ n := by omega
            generalize strOf g.enc = st at *
            clear hn
            have HX1 := hide (next_ok HG2.out HQ1.out)
            generalize hgg : g.next' n = g2 at *
            have hnx := HNX.out
            generalize hgn : g2.next = gn at *
            have hqb : decide (n < 4294967296) = ((gn : Int) == n) := by rw [decide_eq_false (by omega)]; exact (beq_eq_false_iff_ne.2 hnx).symm
            go_wp2_with fail
            refine HX1.out.mono ?_
            rintro e V2 ⟨rfl, hv2⟩
            have HQ2 := hide (HQ1.out.belowW hv2)
            have HP2 := hide (HP1.out.belowW hv2)
            have HB2 := hide (HB1.out.trans (hv2.mono HB1.out.size))
            have HCP2 : (convert 23 9 (.slice ap 504 cp)).run Try.prog V2 = .ok (.string (strOf g.enc)) V2 := run_str HP2.out
            have HCQ2 : (convert 23 9 (.slice aq 504 cq)).run Try.prog V2 = .ok (.string (strOf g2.enc)) V2 := run_str HQ2.out
            rw [HEQ.out] at HCQ2
            generalize strOf g.enc = st2 at *
            have HX2 := hide (check_ok HG2.out HQ2.out)
            clear HX1 hv2 HQ1 HP1 HB1
            go_wp2_with fail
            refine HX2.out.mono ?_
            rintro e V3 ⟨rfl, hv3⟩
            have HQ3 := hide (HQ2.out.belowW hv3)
            have HP3 := hide (HP2.out.belowW hv3)
            have HB3 := hide (HB2.out.trans (hv3.mono HB2.out.size))
            have HX3 := hide (free_ok HG2.out HQ3.out)
            have HFR : Hid (g2.free = g.free) := by unfold Pg.free Pg.size; rw [Hid, HSLQ.out]
            rw [HFR.out] at HX3
            clear HX2 hv3 HQ2 HP2 HB2 HCP2 HCQ2
            go_wp2_with fail
            refine HX3.out.mono ?_
            rintro e V4 ⟨rfl, hv4⟩
            have HQ4 := hide (HQ3.out.belowW hv4)
            have HP4 := hide (HP3.out.belowW hv4)
            have HB4 := hide (HB3.out.trans (hv4.mono HB3.out.size))
            have HX4 := hide (free_ok HG.out HP4.out)
            clear HX3 hv4 HQ3 HP3 HB3
            go_wp2_with fail
            refine HX4.out.mono ?_
            rintro e V5 ⟨rfl, hv5⟩
            have HQ5 := hide (HQ4.out.belowW hv5)
            have HP5 := hide (HP4.out.belowW hv5)
            have HB5 := hide (HB4.out.trans (hv5.mono HB4.out.size))
            have HX5 := hide (slots_ok HG2.out HQ5.out)
            have HSS : Hid (g2.slots = g.slots) := by unfold Pg.slots; rw [Hid, HSLQ.out]
            clear HX4 hv5 HQ4 HP4 HB4
            have hmb : g2.slots.length ≤ 1000 := by
              have h1 := slotsOf_len g2.sl 0
              have h2 := HG2.out.size
              simp only [Pg.size, tsize] at h2
              unfold Pg.slots
              omega
            generalize hml : g2.slots.length = ml at *
            go_wp2_with fail
            refine HX5.out.mono ?_
            rintro e V6 ⟨as6, cs6, rfl, _, hv6⟩
            have HQ6 := hide (HQ5.out.belowW hv6)
            have HP6 := hide (HP5.out.belowW hv6)
            have HB6 := hide (HB5.out.trans (hv6.mono HB5.out.size))
            have HX6 := hide (slots_ok HG.out HP6.out)
            rw [← HSS.out, hml] at HX6
            clear HX5 hv6 HQ5 HP5 HB5
            go_wp2_with fail
            refine HX6.out.mono ?_
            rintro e V7 ⟨as7, cs7, rfl, _, hv7⟩
            have HQ7 := hide (HQ6.out.belowW hv7)
            have HP7 := hide (HP6.out.belowW hv7)
            have HB7 := hide (HB6.out.trans (hv7.mono HB6.out.size))
            have HX7 := hide (slots_ok HG2.out HQ7.out)
            rw [hml] at HX7
            clear HX6 hv7 HQ6 HP6 HB6
            go_wp2_with (go_at_call 14; refine HX7.out.mono ?_; rintro e V8 ⟨ak, ck, rfl, hown, hv8⟩)
            have HQ8 := hide (HQ7.out.belowW hv8)
            have HP8 := hide (HP7.out.belowW hv8)
            have HB8 := hide (HB7.out.trans (hv8.mono HB7.out.size))
            have HNA : Hid (NatsAt V8 ak g2.slots) := nats_of (by rw [hml]; exact hown)
            clear HX7 hv8 hown HQ7 HP7 HB7
            go_loopw [15] (fun i wx => ∃ j : Nat, j ≤ ml ∧ i = .int .i64 (j : Int) ∧ NatsAt wx ak g2.slots ∧ Sl wx (.slice ap 504 cp) g.enc ∧ Sl wx (.slice aq 504 cq) g2.enc ∧ Below w.heap.size w wx) (fun i _ => ml - (intOf i).toNat)
            case atStart => exact ⟨0, Nat.zero_le _, rfl, HNA.out, HP8.out, HQ8.out, HB8.out⟩
            case round =>
              obtain ⟨j, hj, rfl, hna, hpx, hqx, hbx⟩ := hrel
              have HNX1 := hide hna
              have HPX := hide hpx
              have HQX := hide hqx
              have HBX := hide hbx
              clear hna hpx hqx hbx HNA HP8 HQ8 HB8
              by_cases hjl : j < ml
              · obtain ⟨d, hd⟩ := slots_get g2 j (by rw [hml]; exact hjl)
                have hdp : g.sl.getD (g2.slots.getD j 0) none = some d := by rw [← HSLQ.out]; exact hd
                obtain ⟨gk, ok, rfl, kcell⟩ := HNX1.out j (by rw [hml]; exact hjl)
                have HY1 := hide (get_ok HG.out HPX.out hdp)
                have HD2 := hide hd
                clear hd hdp
                generalize g2.slots.getD j 0 = sj at *
                go_wp2_with fail
                refine HY1.out.mono ?_
                rintro e U1 ⟨ax1, cx1, rfl, hx1s, hu1⟩
                have kcell1 := (hu1.cell (World.block_lt_of_cell? wr _ kcell)).trans kcell
                have HN1 := hide (HNX1.out.below hu1)
                have HP1u := hide (HPX.out.belowW hu1)
                have HQ1u := hide (HQX.out.belowW hu1)
                have HB1u := hide (HBX.out.trans (hu1.mono HBX.out.size))
                have HX1s := hide hx1s
                have HY2 := hide (get_ok HG2.out HQ1u.out HD2.out)
                clear HY1 hu1 hx1s HPX HQX HBX HNX1
                go_wp2_with fail
                refine HY2.out.mono ?_
                rintro e U2 ⟨ax2, cx2, rfl, hx2s, hu2⟩
                have cv1 := run_str (HX1s.out.belowW hu2)
                have cv2 := run_str hx2s
                have HN2 := hide (HN1.out.below hu2)
                have HP2u := hide (HP1u.out.belowW hu2)
                have HQ2u := hide (HQ1u.out.belowW hu2)
                have HB2u := hide (HB1u.out.trans (hu2.mono HB1u.out.size))
                clear HY2 hu2 hx2s
                generalize strOf d = sd at *
                go_wp2
                go_roundw
                case rel => exact ⟨j + 1, by omega, by go_num, HN2.out, HP2u.out, HQ2u.out, HB2u.out⟩
                case measure => simp [intOf]; omega
              · have hjm : j = ml := by omega
                subst hjm
                by_cases hm0 : 0 < j
                · obtain ⟨c, hcl, hce⟩ := cut_of del j hm0
                  have ht1 := tmod_low del j hm0
                  have ht2 := tmod_high del j hm0
                  obtain ⟨d, hd⟩ := slots_get g2 c (by rw [hml]; exact hcl)
                  obtain ⟨gk, ok, rfl, kcell⟩ := HNX1.out c (by rw [hml]; exact hcl)
                  have HY1 := hide (del_ok HG2.out HQX.out hd)
                  have HGD := hide (del_good HG2.out (g2.slots.getD c 0))
                  have HDN : Hid ((g2.del (g2.slots.getD c 0)).next = gn) := hgn
                  generalize g2.slots.getD c 0 = sc at *
                  clear hd
                  have hmI : (0 : Int) < (j : Int) := by omega
                  go_wp2_with fail
                  refine HY1.out.mono ?_
                  rintro e U1 ⟨ar, cr, rfl, hr1, hu1⟩
                  have HP1u := hide (HPX.out.belowW hu1)
                  have HQ1u := hide (HQX.out.belowW hu1)
                  have HB1u := hide (HBX.out.trans (hu1.mono HBX.out.size))
                  have HY2 := hide (next_ok HGD.out hr1)
                  rw [HDN.out] at HY2
                  clear HY1 hu1 hr1 HPX HQX HBX kcell hce ht1 ht2
                  go_wp2_with fail
                  refine HY2.out.mono ?_
                  rintro e U2 ⟨rfl, hu2⟩
                  have HPU := hide (HP1u.out.belowW hu2)
                  have HQU := hide (HQ1u.out.belowW hu2)
                  have HBU := hide (HB1u.out.trans (hu2.mono HB1u.out.size))
                  have HY3 := hide (next_ok HG2.out HQU.out)
                  rw [hgn] at HY3
                  clear HY2 hu2
                  go_wp2_with (go_at_call 11; refine HY3.out.mono ?_; rintro e U3 ⟨rfl, hu3⟩)
                  have HPE := hide (HPU.out.belowW hu3)
                  have HQE := hide (HQU.out.belowW hu3)
                  have HBE := hide (HBU.out.trans (hu3.mono HBU.out.size))
                  clear HY3 hu3 HPU HQU HBU HP1u HQ1u HB1u
                  generalize U3 = WE at *
                  refine wp_region_held_drew (S := fun w' => Sl w' (.slice ap 504 cp) g.enc) (by kernel_rfl) (HPE.out.belowW (below_drewN _ _ 1)) (fun hH => ?_)
                  refine take_to 0 158 (.slice aq 504 cq) rfl (by kernel_rfl) (by kernel_rfl) (by kernel_rfl) (fun _ _ _ h => h) rfl (by rfl) (fun w hw => by rfl) hH ?_
                  simp only [Act.put, List.setIfInBounds_toArray, List.set_cons_zero, List.set_cons_succ]
                  refine take_to 1 159 (.slice ap 504 cp) rfl (by kernel_rfl) (by kernel_rfl) (by kernel_rfl) (fun _ _ _ h => h) rfl (by rfl) (fun w hw => by rfl) hH ?_
                  simp only [Act.put, List.setIfInBounds_toArray, List.set_cons_zero, List.set_cons_succ]
                  refine take_to 5 163 (.slice ap 504 cp) rfl (by kernel_rfl) (by kernel_rfl) (by kernel_rfl) (fun _ _ _ h => h) rfl (by rfl) (fun w hw => by rfl) hH ?_
                  simp only [Act.put, List.setIfInBounds_toArray, List.set_cons_zero, List.set_cons_succ]
                  refine take_to 6 164 (.string (strOf g.enc)) rfl (by kernel_rfl) (by kernel_rfl) (by kernel_rfl) (fun _ _ _ h => h) rfl (by rfl) (fun w hw => op_conv _ _ 23 9 (.tmp 163) rfl _ _ rfl (run_str hw)) hH ?_
                  simp only [Act.put, List.setIfInBounds_toArray, List.set_cons_zero, List.set_cons_succ]
                  refine step_call1_to 2 160 11 rfl (by kernel_rfl) rfl (by rfl) (.tmp 159) _ rfl _ rfl Try.enters11 (next_ok HG.out hH) ?_
                  rintro e Z1 ⟨rfl, hz1⟩
                  have hp1 : Sl Z1 (.slice ap 504 cp) g.enc := hH.belowW hz1
                  have hq1 : Sl Z1 (.slice aq 504 cq) g2.enc := (HQE.out.belowW (below_drewN _ _ 1)).belowW hz1
                  refine ⟨_, rfl, hp1, ?_⟩
                  simp only [Act.put, List.setIfInBounds_toArray, List.set_cons_zero, List.set_cons_succ]
                  refine step_call2_to 3 161 10 rfl (by kernel_rfl) rfl (by rfl) (.tmp 158) (.tmp 160) _ rfl _ _ rfl rfl Try.enters10 (setNext_ok HG2.out hq1 (g.next : Int)) ?_
                  rintro e Z2 ⟨az, cz, rfl, hz2s, hz2⟩
                  have hp2 : Sl Z2 (.slice ap 504 cp) g.enc := hp1.belowW hz2
                  rw [HNN.out] at hz2s
                  refine ⟨_, rfl, hp2, ?_⟩
                  simp only [Act.put, List.setIfInBounds_toArray, List.set_cons_zero, List.set_cons_succ]
                  refine step_to 4 162 (.string (strOf g.enc)) Z2 rfl (by kernel_rfl) rfl (by rfl) (op_conv _ _ 23 9 (.tmp 161) rfl _ _ rfl (run_str hz2s)) hp2 ?_
                  simp only [Act.put, List.setIfInBounds_toArray, List.set_cons_zero, List.set_cons_succ]
                  refine step_to 7 165 (.bool true) Z2 rfl (by kernel_rfl) rfl (by rfl) (op_eql9 _ _ (.tmp 162) (.tmp 164) 9 rfl _ rfl rfl) hp2 ?_
                  simp only [Act.put, List.setIfInBounds_toArray, List.set_cons_zero, List.set_cons_succ]
                  refine step_to 8 166 (.bool true) Z2 rfl (by kernel_rfl) rfl (by rfl) (rfl) hp2 ?_
                  simp only [Act.put, List.setIfInBounds_toArray, List.set_cons_zero, List.set_cons_succ]
                  refine step_call0_to 9 167 17 rfl (by kernel_rfl) rfl (by rfl) _ rfl Try.enters17 (awake_any Z2) ?_
                  rintro e Z3 ⟨rfl, hz3⟩
                  have hp3 : Sl Z3 (.slice ap 504 cp) g.enc := hp2.belowW hz3
                  refine ⟨_, rfl, hp3, ?_⟩
                  simp only [Act.put, List.setIfInBounds_toArray, List.set_cons_zero, List.set_cons_succ]
                  refine step_to 10 168 (.bool true) Z3 rfl (by kernel_rfl) rfl (by rfl) (rfl) hp3 ?_
                  simp only [Act.put, List.setIfInBounds_toArray, List.set_cons_zero, List.set_cons_succ]
                  refine step_to 11 6 (.bool true) Z3 rfl (by kernel_rfl) rfl (by rfl) (rfl) hp3 ?_
                  simp only [Act.put, List.setIfInBounds_toArray, List.set_cons_zero, List.set_cons_succ]
                  refine wpAnyH_done (by kernel_rfl) ?_ _
                  go_wp2
                  go_ret
                  have t0 := HBE.out.size
                  have t1 : WE.heap.size ≤ Z1.heap.size := hz1.size
                  have t2 := hz2.size
                  exact ⟨rfl, (((HBE.out.trans (below_drewN _ _ 1)).trans (hz1.mono (by show _ ≤ WE.heap.size; omega))).trans (hz2.mono (by omega))).trans (hz3.mono (by omega))⟩
                · have hj0 : j = 0 := by omega
                  have hmI : ¬ ((0 : Int) < (j : Int)) := by omega
                  have HPE := hide HPX.out
                  have HQE := hide HQX.out
                  have HBE := hide HBX.out
                  clear HPX HQX HBX HNX1
                  go_wp2
                  generalize wr = WE at *
                  refine wp_region_held_drew (S := fun w' => Sl w' (.slice ap 504 cp) g.enc) (by kernel_rfl) (HPE.out.belowW (below_drewN _ _ 1)) (fun hH => ?_)
                  refine take_to 0 158 (.slice aq 504 cq) rfl (by kernel_rfl) (by kernel_rfl) (by kernel_rfl) (fun _ _ _ h => h) rfl (by rfl) (fun w hw => by rfl) hH ?_
                  simp only [Act.put, List.setIfInBounds_toArray, List.set_cons_zero, List.set_cons_succ]
                  refine take_to 1 159 (.slice ap 504 cp) rfl (by kernel_rfl) (by kernel_rfl) (by kernel_rfl) (fun _ _ _ h => h) rfl (by rfl) (fun w hw => by rfl) hH ?_
                  simp only [Act.put, List.setIfInBounds_toArray, List.set_cons_zero, List.set_cons_succ]
                  refine take_to 5 163 (.slice ap 504 cp) rfl (by kernel_rfl) (by kernel_rfl) (by kernel_rfl) (fun _ _ _ h => h) rfl (by rfl) (fun w hw => by rfl) hH ?_
                  simp only [Act.put, List.setIfInBounds_toArray, List.set_cons_zero, List.set_cons_succ]
                  refine take_to 6 164 (.string (strOf g.enc)) rfl (by kernel_rfl) (by kernel_rfl) (by kernel_rfl) (fun _ _ _ h => h) rfl (by rfl) (fun w hw => op_conv _ _ 23 9 (.tmp 163) rfl _ _ rfl (run_str hw)) hH ?_
                  simp only [Act.put, List.setIfInBounds_toArray, List.set_cons_zero, List.set_cons_succ]
                  refine step_call1_to 2 160 11 rfl (by kernel_rfl) rfl (by rfl) (.tmp 159) _ rfl _ rfl Try.enters11 (next_ok HG.out hH) ?_
                  rintro e Z1 ⟨rfl, hz1⟩
                  have hp1 : Sl Z1 (.slice ap 504 cp) g.enc := hH.belowW hz1
                  have hq1 : Sl Z1 (.slice aq 504 cq) g2.enc := (HQE.out.belowW (below_drewN _ _ 1)).belowW hz1
                  refine ⟨_, rfl, hp1, ?_⟩
                  simp only [Act.put, List.setIfInBounds_toArray, List.set_cons_zero, List.set_cons_succ]
                  refine step_call2_to 3 161 10 rfl (by kernel_rfl) rfl (by rfl) (.tmp 158) (.tmp 160) _ rfl _ _ rfl rfl Try.enters10 (setNext_ok HG2.out hq1 (g.next : Int)) ?_
                  rintro e Z2 ⟨az, cz, rfl, hz2s, hz2⟩
                  have hp2 : Sl Z2 (.slice ap 504 cp) g.enc := hp1.belowW hz2
                  rw [HNN.out] at hz2s
                  refine ⟨_, rfl, hp2, ?_⟩
                  simp only [Act.put, List.setIfInBounds_toArray, List.set_cons_zero, List.set_cons_succ]
                  refine step_to 4 162 (.string (strOf g.enc)) Z2 rfl (by kernel_rfl) rfl (by rfl) (op_conv _ _ 23 9 (.tmp 161) rfl _ _ rfl (run_str hz2s)) hp2 ?_
                  simp only [Act.put, List.setIfInBounds_toArray, List.set_cons_zero, List.set_cons_succ]
                  refine step_to 7 165 (.bool true) Z2 rfl (by kernel_rfl) rfl (by rfl) (op_eql9 _ _ (.tmp 162) (.tmp 164) 9 rfl _ rfl rfl) hp2 ?_
                  simp only [Act.put, List.setIfInBounds_toArray, List.set_cons_zero, List.set_cons_succ]
                  refine step_to 8 166 (.bool true) Z2 rfl (by kernel_rfl) rfl (by rfl) (rfl) hp2 ?_
                  simp only [Act.put, List.setIfInBounds_toArray, List.set_cons_zero, List.set_cons_succ]
                  refine step_call0_to 9 167 17 rfl (by kernel_rfl) rfl (by rfl) _ rfl Try.enters17 (awake_any Z2) ?_
                  rintro e Z3 ⟨rfl, hz3⟩
                  have hp3 : Sl Z3 (.slice ap 504 cp) g.enc := hp2.belowW hz3
                  refine ⟨_, rfl, hp3, ?_⟩
                  simp only [Act.put, List.setIfInBounds_toArray, List.set_cons_zero, List.set_cons_succ]
                  refine step_to 10 168 (.bool true) Z3 rfl (by kernel_rfl) rfl (by rfl) (rfl) hp3 ?_
                  simp only [Act.put, List.setIfInBounds_toArray, List.set_cons_zero, List.set_cons_succ]
                  refine step_to 11 6 (.bool true) Z3 rfl (by kernel_rfl) rfl (by rfl) (rfl) hp3 ?_
                  simp only [Act.put, List.setIfInBounds_toArray, List.set_cons_zero, List.set_cons_succ]
                  refine wpAnyH_done (by kernel_rfl) ?_ _
                  go_wp2
                  go_ret
                  have t0 := HBE.out.size
                  have t1 : WE.heap.size ≤ Z1.heap.size := hz1.size
                  have t2 := hz2.size
                  exact ⟨rfl, (((HBE.out.trans (below_drewN _ _ 1)).trans (hz1.mono (by show _ ≤ WE.heap.size; omega))).trans (hz2.mono (by omega))).trans (hz3.mono (by omega))⟩
    · have hkl : k = len0 := by omega
      subst hkl
      have HSN := hide (setNext_ok HG.out HP.out n)
      have HG2 := hide (next'_good HG.out n)
      have HSLQ : Hid ((g.next' n).sl = g.sl) := next'_sl g n
      have HNN : Hid ((g.next' n).next' (g.next : Int) = g) := next'_back HG.out n
      go_wp2_with fail
      refine HSN.out.mono ?_
      rintro e V1 ⟨aq, cq, rfl, hq1, hv1⟩
      have HQ1 := hide hq1
      have HP1 := hide (HP.out.belowW hv1)
      have HB1 := hide (HB.out.trans (hv1.mono HB.out.size))
      have HCP := run_str HP1.out
      have HCQ := run_str HQ1.out
      clear HSN hq1 hv1 HP HB
      by_cases hn : 0 ≤ n ∧ n ≤ 4294967295
      · have hng : (decide (0 ≤ n) && decide (n < 4294967296)) = true := by simp; omega
        have hn1 : 0 ≤ n := hn.1
        have hn2 : n < 4294967296 := by omega
        have HNX : Hid (((g.next' n).next : Int) = n) := by unfold Pg.next'; rw [Hid, if_pos hn]; simp; omega
        clear HCP HCQ hn
        have HX1 := hide (next_ok HG2.out HQ1.out)
        generalize hgg : g.next' n = g2 at *
        have hnx := HNX.out
        generalize hgn : g2.next = gn at *
        go_wp2_with fail
        refine HX1.out.mono ?_
        rintro e V2 ⟨rfl, hv2⟩
        have HQ2 := hide (HQ1.out.belowW hv2)
        have HP2 := hide (HP1.out.belowW hv2)
        have HB2 := hide (HB1.out.trans (hv2.mono HB1.out.size))
        have HX2 := hide (check_ok HG2.out HQ2.out)
        clear HX1 hv2 HQ1 HP1 HB1
        go_wp2_with fail
        refine HX2.out.mono ?_
        rintro e V3 ⟨rfl, hv3⟩
        have HQ3 := hide (HQ2.out.belowW hv3)
        have HP3 := hide (HP2.out.belowW hv3)
        have HB3 := hide (HB2.out.trans (hv3.mono HB2.out.size))
        have HX3 := hide (free_ok HG2.out HQ3.out)
        have HFR : Hid (g2.free = g.free) := by unfold Pg.free Pg.size; rw [Hid, HSLQ.out]
        rw [HFR.out] at HX3
        clear HX2 hv3 HQ2 HP2 HB2
        go_wp2_with fail
        refine HX3.out.mono ?_
        rintro e V4 ⟨rfl, hv4⟩
        have HQ4 := hide (HQ3.out.belowW hv4)
        have HP4 := hide (HP3.out.belowW hv4)
        have HB4 := hide (HB3.out.trans (hv4.mono HB3.out.size))
        have HX4 := hide (free_ok HG.out HP4.out)
        clear HX3 hv4 HQ3 HP3 HB3
        go_wp2_with fail
        refine HX4.out.mono ?_
        rintro e V5 ⟨rfl, hv5⟩
        have HQ5 := hide (HQ4.out.belowW hv5)
        have HP5 := hide (HP4.out.belowW hv5)
        have HB5 := hide (HB4.out.trans (hv5.mono HB4.out.size))
        have HX5 := hide (slots_ok HG2.out HQ5.out)
        have HSS : Hid (g2.slots = g.slots) := by unfold Pg.slots; rw [Hid, HSLQ.out]
        clear HX4 hv5 HQ4 HP4 HB4
        have hmb : g2.slots.length ≤ 1000 := by
          have h1 := slotsOf_len g2.sl 0
          have h2 := HG2.out.size
          simp only [Pg.size, tsize] at h2
          unfold Pg.slots
          omega
        generalize hml : g2.slots.length = ml at *
        go_wp2_with fail
        refine HX5.out.mono ?_
        rintro e V6 ⟨as6, cs6, rfl, _, hv6⟩
        have HQ6 := hide (HQ5.out.belowW hv6)
        have HP6 := hide (HP5.out.belowW hv6)
        have HB6 := hide (HB5.out.trans (hv6.mono HB5.out.size))
        have HX6 := hide (slots_ok HG.out HP6.out)
        rw [← HSS.out, hml] at HX6
        clear HX5 hv6 HQ5 HP5 HB5
        go_wp2_with fail
        refine HX6.out.mono ?_
        rintro e V7 ⟨as7, cs7, rfl, _, hv7⟩
        have HQ7 := hide (HQ6.out.belowW hv7)
        have HP7 := hide (HP6.out.belowW hv7)
        have HB7 := hide (HB6.out.trans (hv7.mono HB6.out.size))
        have HX7 := hide (slots_ok HG2.out HQ7.out)
        rw [hml] at HX7
        clear HX6 hv7 HQ6 HP6 HB6
        go_wp2_with (go_at_call 14; refine HX7.out.mono ?_; rintro e V8 ⟨ak, ck, rfl, hown, hv8⟩)
        have HQ8 := hide (HQ7.out.belowW hv8)
        have HP8 := hide (HP7.out.belowW hv8)
        have HB8 := hide (HB7.out.trans (hv8.mono HB7.out.size))
        have HNA : Hid (NatsAt V8 ak g2.slots) := nats_of (by rw [hml]; exact hown)
        clear HX7 hv8 hown HQ7 HP7 HB7
        go_loopw [15] (fun i wx => ∃ j : Nat, j ≤ ml ∧ i = .int .i64 (j : Int) ∧ NatsAt wx ak g2.slots ∧ Sl wx (.slice ap 504 cp) g.enc ∧ Sl wx (.slice aq 504 cq) g2.enc ∧ Below w.heap.size w wx) (fun i _ => ml - (intOf i).toNat)
        case atStart => exact ⟨0, Nat.zero_le _, rfl, HNA.out, HP8.out, HQ8.out, HB8.out⟩
        case round =>
          obtain ⟨j, hj, rfl, hna, hpx, hqx, hbx⟩ := hrel
          have HNX1 := hide hna
          have HPX := hide hpx
          have HQX := hide hqx
          have HBX := hide hbx
          clear hna hpx hqx hbx HNA HP8 HQ8 HB8
          by_cases hjl : j < ml
          · obtain ⟨d, hd⟩ := slots_get g2 j (by rw [hml]; exact hjl)
            have hdp : g.sl.getD (g2.slots.getD j 0) none = some d := by rw [← HSLQ.out]; exact hd
            obtain ⟨gk, ok, rfl, kcell⟩ := HNX1.out j (by rw [hml]; exact hjl)
            have HY1 := hide (get_ok HG.out HPX.out hdp)
            have HD2 := hide hd
            clear hd hdp
            generalize g2.slots.getD j 0 = sj at *
            go_wp2_with fail
            refine HY1.out.mono ?_
            rintro e U1 ⟨ax1, cx1, rfl, hx1s, hu1⟩
            have kcell1 := (hu1.cell (World.block_lt_of_cell? wr _ kcell)).trans kcell
            have HN1 := hide (HNX1.out.below hu1)
            have HP1u := hide (HPX.out.belowW hu1)
            have HQ1u := hide (HQX.out.belowW hu1)
            have HB1u := hide (HBX.out.trans (hu1.mono HBX.out.size))
            have HX1s := hide hx1s
            have HY2 := hide (get_ok HG2.out HQ1u.out HD2.out)
            clear HY1 hu1 hx1s HPX HQX HBX HNX1
            go_wp2_with fail
            refine HY2.out.mono ?_
            rintro e U2 ⟨ax2, cx2, rfl, hx2s, hu2⟩
            have cv1 := run_str (HX1s.out.belowW hu2)
            have cv2 := run_str hx2s
            have HN2 := hide (HN1.out.below hu2)
            have HP2u := hide (HP1u.out.belowW hu2)
            have HQ2u := hide (HQ1u.out.belowW hu2)
            have HB2u := hide (HB1u.out.trans (hu2.mono HB1u.out.size))
            clear HY2 hu2 hx2s
            generalize strOf d = sd at *
            go_wp2
            go_roundw
            case rel => exact ⟨j + 1, by omega, by go_num, HN2.out, HP2u.out, HQ2u.out, HB2u.out⟩
            case measure => simp [intOf]; omega
          · have hjm : j = ml := by omega
            subst hjm
            by_cases hm0 : 0 < j
            · obtain ⟨c, hcl, hce⟩ := cut_of del j hm0
              have ht1 := tmod_low del j hm0
              have ht2 := tmod_high del j hm0
              obtain ⟨d, hd⟩ := slots_get g2 c (by rw [hml]; exact hcl)
              obtain ⟨gk, ok, rfl, kcell⟩ := HNX1.out c (by rw [hml]; exact hcl)
              have HY1 := hide (del_ok HG2.out HQX.out hd)
              have HGD := hide (del_good HG2.out (g2.slots.getD c 0))
              have HDN : Hid ((g2.del (g2.slots.getD c 0)).next = gn) := hgn
              generalize g2.slots.getD c 0 = sc at *
              clear hd
              have hmI : (0 : Int) < (j : Int) := by omega
              go_wp2_with fail
              refine HY1.out.mono ?_
              rintro e U1 ⟨ar, cr, rfl, hr1, hu1⟩
              have HP1u := hide (HPX.out.belowW hu1)
              have HQ1u := hide (HQX.out.belowW hu1)
              have HB1u := hide (HBX.out.trans (hu1.mono HBX.out.size))
              have HY2 := hide (next_ok HGD.out hr1)
              rw [HDN.out] at HY2
              clear HY1 hu1 hr1 HPX HQX HBX kcell hce ht1 ht2
              go_wp2_with fail
              refine HY2.out.mono ?_
              rintro e U2 ⟨rfl, hu2⟩
              have HPU := hide (HP1u.out.belowW hu2)
              have HQU := hide (HQ1u.out.belowW hu2)
              have HBU := hide (HB1u.out.trans (hu2.mono HB1u.out.size))
              have HY3 := hide (next_ok HG2.out HQU.out)
              rw [hgn] at HY3
              clear HY2 hu2
              go_wp2_with (go_at_call 11; refine HY3.out.mono ?_; rintro e U3 ⟨rfl, hu3⟩)
              have HPE := hide (HPU.out.belowW hu3)
              have HQE := hide (HQU.out.belowW hu3)
              have HBE := hide (HBU.out.trans (hu3.mono HBU.out.size))
              clear HY3 hu3 HPU HQU HBU HP1u HQ1u HB1u
              generalize U3 = WE at *
              refine wp_region_held_drew (S := fun w' => Sl w' (.slice ap 504 cp) g.enc) (by kernel_rfl) (HPE.out.belowW (below_drewN _ _ 1)) (fun hH => ?_)
              refine take_to 0 158 (.slice aq 504 cq) rfl (by kernel_rfl) (by kernel_rfl) (by kernel_rfl) (fun _ _ _ h => h) rfl (by rfl) (fun w hw => by rfl) hH ?_
              simp only [Act.put, List.setIfInBounds_toArray, List.set_cons_zero, List.set_cons_succ]
              refine take_to 1 159 (.slice ap 504 cp) rfl (by kernel_rfl) (by kernel_rfl) (by kernel_rfl) (fun _ _ _ h => h) rfl (by rfl) (fun w hw => by rfl) hH ?_
              simp only [Act.put, List.setIfInBounds_toArray, List.set_cons_zero, List.set_cons_succ]
              refine take_to 5 163 (.slice ap 504 cp) rfl (by kernel_rfl) (by kernel_rfl) (by kernel_rfl) (fun _ _ _ h => h) rfl (by rfl) (fun w hw => by rfl) hH ?_
              simp only [Act.put, List.setIfInBounds_toArray, List.set_cons_zero, List.set_cons_succ]
              refine take_to 6 164 (.string (strOf g.enc)) rfl (by kernel_rfl) (by kernel_rfl) (by kernel_rfl) (fun _ _ _ h => h) rfl (by rfl) (fun w hw => op_conv _ _ 23 9 (.tmp 163) rfl _ _ rfl (run_str hw)) hH ?_
              simp only [Act.put, List.setIfInBounds_toArray, List.set_cons_zero, List.set_cons_succ]
              refine step_call1_to 2 160 11 rfl (by kernel_rfl) rfl (by rfl) (.tmp 159) _ rfl _ rfl Try.enters11 (next_ok HG.out hH) ?_
              rintro e Z1 ⟨rfl, hz1⟩
              have hp1 : Sl Z1 (.slice ap 504 cp) g.enc := hH.belowW hz1
              have hq1 : Sl Z1 (.slice aq 504 cq) g2.enc := (HQE.out.belowW (below_drewN _ _ 1)).belowW hz1
              refine ⟨_, rfl, hp1, ?_⟩
              simp only [Act.put, List.setIfInBounds_toArray, List.set_cons_zero, List.set_cons_succ]
              refine step_call2_to 3 161 10 rfl (by kernel_rfl) rfl (by rfl) (.tmp 158) (.tmp 160) _ rfl _ _ rfl rfl Try.enters10 (setNext_ok HG2.out hq1 (g.next : Int)) ?_
              rintro e Z2 ⟨az, cz, rfl, hz2s, hz2⟩
              have hp2 : Sl Z2 (.slice ap 504 cp) g.enc := hp1.belowW hz2
              rw [HNN.out] at hz2s
              refine ⟨_, rfl, hp2, ?_⟩
              simp only [Act.put, List.setIfInBounds_toArray, List.set_cons_zero, List.set_cons_succ]
              refine step_to 4 162 (.string (strOf g.enc)) Z2 rfl (by kernel_rfl) rfl (by rfl) (op_conv _ _ 23 9 (.tmp 161) rfl _ _ rfl (run_str hz2s)) hp2 ?_
              simp only [Act.put, List.setIfInBounds_toArray, List.set_cons_zero, List.set_cons_succ]
              refine step_to 7 165 (.bool true) Z2 rfl (by kernel_rfl) rfl (by rfl) (op_eql9 _ _ (.tmp 162) (.tmp 164) 9 rfl _ rfl rfl) hp2 ?_
              simp only [Act.put, List.setIfInBounds_toArray, List.set_cons_zero, List.set_cons_succ]
              refine step_to 8 166 (.bool true) Z2 rfl (by kernel_rfl) rfl (by rfl) (rfl) hp2 ?_
              simp only [Act.put, List.setIfInBounds_toArray, List.set_cons_zero, List.set_cons_succ]
              refine step_call0_to 9 167 17 rfl (by kernel_rfl) rfl (by rfl) _ rfl Try.enters17 (awake_any Z2) ?_
              rintro e Z3 ⟨rfl, hz3⟩
              have hp3 : Sl Z3 (.slice ap 504 cp) g.enc := hp2.belowW hz3
              refine ⟨_, rfl, hp3, ?_⟩
              simp only [Act.put, List.setIfInBounds_toArray, List.set_cons_zero, List.set_cons_succ]
              refine step_to 10 168 (.bool true) Z3 rfl (by kernel_rfl) rfl (by rfl) (rfl) hp3 ?_
              simp only [Act.put, List.setIfInBounds_toArray, List.set_cons_zero, List.set_cons_succ]
              refine step_to 11 6 (.bool true) Z3 rfl (by kernel_rfl) rfl (by rfl) (rfl) hp3 ?_
              simp only [Act.put, List.setIfInBounds_toArray, List.set_cons_zero, List.set_cons_succ]
              refine wpAnyH_done (by kernel_rfl) ?_ _
              go_wp2
              go_ret
              have t0 := HBE.out.size
              have t1 : WE.heap.size ≤ Z1.heap.size := hz1.size
              have t2 := hz2.size
              exact ⟨rfl, (((HBE.out.trans (below_drewN _ _ 1)).trans (hz1.mono (by show _ ≤ WE.heap.size; omega))).trans (hz2.mono (by omega))).trans (hz3.mono (by omega))⟩
            · have hj0 : j = 0 := by omega
              have hmI : ¬ ((0 : Int) < (j : Int)) := by omega
              have HPE := hide HPX.out
              have HQE := hide HQX.out
              have HBE := hide HBX.out
              clear HPX HQX HBX HNX1
              go_wp2
              generalize wr = WE at *
              refine wp_region_held_drew (S := fun w' => Sl w' (.slice ap 504 cp) g.enc) (by kernel_rfl) (HPE.out.belowW (below_drewN _ _ 1)) (fun hH => ?_)
              refine take_to 0 158 (.slice aq 504 cq) rfl (by kernel_rfl) (by kernel_rfl) (by kernel_rfl) (fun _ _ _ h => h) rfl (by rfl) (fun w hw => by rfl) hH ?_
              simp only [Act.put, List.setIfInBounds_toArray, List.set_cons_zero, List.set_cons_succ]
              refine take_to 1 159 (.slice ap 504 cp) rfl (by kernel_rfl) (by kernel_rfl) (by kernel_rfl) (fun _ _ _ h => h) rfl (by rfl) (fun w hw => by rfl) hH ?_
              simp only [Act.put, List.setIfInBounds_toArray, List.set_cons_zero, List.set_cons_succ]
              refine take_to 5 163 (.slice ap 504 cp) rfl (by kernel_rfl) (by kernel_rfl) (by kernel_rfl) (fun _ _ _ h => h) rfl (by rfl) (fun w hw => by rfl) hH ?_
              simp only [Act.put, List.setIfInBounds_toArray, List.set_cons_zero, List.set_cons_succ]
              refine take_to 6 164 (.string (strOf g.enc)) rfl (by kernel_rfl) (by kernel_rfl) (by kernel_rfl) (fun _ _ _ h => h) rfl (by rfl) (fun w hw => op_conv _ _ 23 9 (.tmp 163) rfl _ _ rfl (run_str hw)) hH ?_
              simp only [Act.put, List.setIfInBounds_toArray, List.set_cons_zero, List.set_cons_succ]
              refine step_call1_to 2 160 11 rfl (by kernel_rfl) rfl (by rfl) (.tmp 159) _ rfl _ rfl Try.enters11 (next_ok HG.out hH) ?_
              rintro e Z1 ⟨rfl, hz1⟩
              have hp1 : Sl Z1 (.slice ap 504 cp) g.enc := hH.belowW hz1
              have hq1 : Sl Z1 (.slice aq 504 cq) g2.enc := (HQE.out.belowW (below_drewN _ _ 1)).belowW hz1
              refine ⟨_, rfl, hp1, ?_⟩
              simp only [Act.put, List.setIfInBounds_toArray, List.set_cons_zero, List.set_cons_succ]
              refine step_call2_to 3 161 10 rfl (by kernel_rfl) rfl (by rfl) (.tmp 158) (.tmp 160) _ rfl _ _ rfl rfl Try.enters10 (setNext_ok HG2.out hq1 (g.next : Int)) ?_
              rintro e Z2 ⟨az, cz, rfl, hz2s, hz2⟩
              have hp2 : Sl Z2 (.slice ap 504 cp) g.enc := hp1.belowW hz2
              rw [HNN.out] at hz2s
              refine ⟨_, rfl, hp2, ?_⟩
              simp only [Act.put, List.setIfInBounds_toArray, List.set_cons_zero, List.set_cons_succ]
              refine step_to 4 162 (.string (strOf g.enc)) Z2 rfl (by kernel_rfl) rfl (by rfl) (op_conv _ _ 23 9 (.tmp 161) rfl _ _ rfl (run_str hz2s)) hp2 ?_
              simp only [Act.put, List.setIfInBounds_toArray, List.set_cons_zero, List.set_cons_succ]
              refine step_to 7 165 (.bool true) Z2 rfl (by kernel_rfl) rfl (by rfl) (op_eql9 _ _ (.tmp 162) (.tmp 164) 9 rfl _ rfl rfl) hp2 ?_
              simp only [Act.put, List.setIfInBounds_toArray, List.set_cons_zero, List.set_cons_succ]
              refine step_to 8 166 (.bool true) Z2 rfl (by kernel_rfl) rfl (by rfl) (rfl) hp2 ?_
              simp only [Act.put, List.setIfInBounds_toArray, List.set_cons_zero, List.set_cons_succ]
              refine step_call0_to 9 167 17 rfl (by kernel_rfl) rfl (by rfl) _ rfl Try.enters17 (awake_any Z2) ?_
              rintro e Z3 ⟨rfl, hz3⟩
              have hp3 : Sl Z3 (.slice ap 504 cp) g.enc := hp2.belowW hz3
              refine ⟨_, rfl, hp3, ?_⟩
              simp only [Act.put, List.setIfInBounds_toArray, List.set_cons_zero, List.set_cons_succ]
              refine step_to 10 168 (.bool true) Z3 rfl (by kernel_rfl) rfl (by rfl) (rfl) hp3 ?_
              simp only [Act.put, List.setIfInBounds_toArray, List.set_cons_zero, List.set_cons_succ]
              refine step_to 11 6 (.bool true) Z3 rfl (by kernel_rfl) rfl (by rfl) (rfl) hp3 ?_
              simp only [Act.put, List.setIfInBounds_toArray, List.set_cons_zero, List.set_cons_succ]
              refine wpAnyH_done (by kernel_rfl) ?_ _
              go_wp2
              go_ret
              have t0 := HBE.out.size
              have t1 : WE.heap.size ≤ Z1.heap.size := hz1.size
              have t2 := hz2.size
              exact ⟨rfl, (((HBE.out.trans (below_drewN _ _ 1)).trans (hz1.mono (by show _ ≤ WE.heap.size; omega))).trans (hz2.mono (by omega))).trans (hz3.mono (by omega))⟩
      · have HNX : Hid (¬ (((g.next' n).next : Int) = n)) := by
          have := HG.out.next
          unfold Pg.next'
          rw [Hid, if_neg hn]
          omega
        have HEQ : Hid (g.next' n = g) := by unfold Pg.next'; rw [Hid, if_neg hn]
        rw [HEQ.out] at HCQ
        by_cases hn1 : n < 0
        · have hn1' : ¬ (0 ≤ n) := by omega
          generalize strOf g.enc = st at *
          clear hn
          have HX1 := hide (next_ok HG2.out HQ1.out)
          generalize hgg : g.next' n = g2 at *
          have hnx := HNX.out
          generalize hgn : g2.next = gn at *
          go_wp2_with fail
          refine HX1.out.mono ?_
          rintro e V2 ⟨rfl, hv2⟩
          have HQ2 := hide (HQ1.out.belowW hv2)
          have HP2 := hide (HP1.out.belowW hv2)
          have HB2 := hide (HB1.out.trans (hv2.mono HB1.out.size))
          have HCP2 : (convert 23 9 (.slice ap 504 cp)).run Try.prog V2 = .ok (.string (strOf g.enc)) V2 := run_str HP2.out
          have HCQ2 : (convert 23 9 (.slice aq 504 cq)).run Try.prog V2 = .ok (.string (strOf g2.enc)) V2 := run_str HQ2.out
          rw [HEQ.out] at HCQ2
          generalize strOf g.enc = st2 at *
          have HX2 := hide (check_ok HG2.out HQ2.out)
          clear HX1 hv2 HQ1 HP1 HB1
          go_wp2_with fail
          refine HX2.out.mono ?_
          rintro e V3 ⟨rfl, hv3⟩
          have HQ3 := hide (HQ2.out.belowW hv3)
          have HP3 := hide (HP2.out.belowW hv3)
          have HB3 := hide (HB2.out.trans (hv3.mono HB2.out.size))
          have HX3 := hide (free_ok HG2.out HQ3.out)
          have HFR : Hid (g2.free = g.free) := by unfold Pg.free Pg.size; rw [Hid, HSLQ.out]
          rw [HFR.out] at HX3
          clear HX2 hv3 HQ2 HP2 HB2 HCP2 HCQ2
          go_wp2_with fail
          refine HX3.out.mono ?_
          rintro e V4 ⟨rfl, hv4⟩
          have HQ4 := hide (HQ3.out.belowW hv4)
          have HP4 := hide (HP3.out.belowW hv4)
          have HB4 := hide (HB3.out.trans (hv4.mono HB3.out.size))
          have HX4 := hide (free_ok HG.out HP4.out)
          clear HX3 hv4 HQ3 HP3 HB3
          go_wp2_with fail
          refine HX4.out.mono ?_
          rintro e V5 ⟨rfl, hv5⟩
          have HQ5 := hide (HQ4.out.belowW hv5)
          have HP5 := hide (HP4.out.belowW hv5)
          have HB5 := hide (HB4.out.trans (hv5.mono HB4.out.size))
          have HX5 := hide (slots_ok HG2.out HQ5.out)
          have HSS : Hid (g2.slots = g.slots) := by unfold Pg.slots; rw [Hid, HSLQ.out]
          clear HX4 hv5 HQ4 HP4 HB4
          have hmb : g2.slots.length ≤ 1000 := by
            have h1 := slotsOf_len g2.sl 0
            have h2 := HG2.out.size
            simp only [Pg.size, tsize] at h2
            unfold Pg.slots
            omega
          generalize hml : g2.slots.length = ml at *
          go_wp2_with fail
          refine HX5.out.mono ?_
          rintro e V6 ⟨as6, cs6, rfl, _, hv6⟩
          have HQ6 := hide (HQ5.out.belowW hv6)
          have HP6 := hide (HP5.out.belowW hv6)
          have HB6 := hide (HB5.out.trans (hv6.mono HB5.out.size))
          have HX6 := hide (slots_ok HG.out HP6.out)
          rw [← HSS.out, hml] at HX6
          clear HX5 hv6 HQ5 HP5 HB5
          go_wp2_with fail
          refine HX6.out.mono ?_
          rintro e V7 ⟨as7, cs7, rfl, _, hv7⟩
          have HQ7 := hide (HQ6.out.belowW hv7)
          have HP7 := hide (HP6.out.belowW hv7)
          have HB7 := hide (HB6.out.trans (hv7.mono HB6.out.size))
          have HX7 := hide (slots_ok HG2.out HQ7.out)
          rw [hml] at HX7
          clear HX6 hv7 HQ6 HP6 HB6
          go_wp2_with (go_at_call 14; refine HX7.out.mono ?_; rintro e V8 ⟨ak, ck, rfl, hown, hv8⟩)
          have HQ8 := hide (HQ7.out.belowW hv8)
          have HP8 := hide (HP7.out.belowW hv8)
          have HB8 := hide (HB7.out.trans (hv8.mono HB7.out.size))
          have HNA : Hid (NatsAt V8 ak g2.slots) := nats_of (by rw [hml]; exact hown)
          clear HX7 hv8 hown HQ7 HP7 HB7
          go_loopw [15] (fun i wx => ∃ j : Nat, j ≤ ml ∧ i = .int .i64 (j : Int) ∧ NatsAt wx ak g2.slots ∧ Sl wx (.slice ap 504 cp) g.enc ∧ Sl wx (.slice aq 504 cq) g2.enc ∧ Below w.heap.size w wx) (fun i _ => ml - (intOf i).toNat)
          case atStart => exact ⟨0, Nat.zero_le _, rfl, HNA.out, HP8.out, HQ8.out, HB8.out⟩
          case round =>
            obtain ⟨j, hj, rfl, hna, hpx, hqx, hbx⟩ := hrel
            have HNX1 := hide hna
            have HPX := hide hpx
            have HQX := hide hqx
            have HBX := hide hbx
            clear hna hpx hqx hbx HNA HP8 HQ8 HB8
            by_cases hjl : j < ml
            · obtain ⟨d, hd⟩ := slots_get g2 j (by rw [hml]; exact hjl)
              have hdp : g.sl.getD (g2.slots.getD j 0) none = some d := by rw [← HSLQ.out]; exact hd
              obtain ⟨gk, ok, rfl, kcell⟩ := HNX1.out j (by rw [hml]; exact hjl)
              have HY1 := hide (get_ok HG.out HPX.out hdp)
              have HD2 := hide hd
              clear hd hdp
              generalize g2.slots.getD j 0 = sj at *
              go_wp2_with fail
              refine HY1.out.mono ?_
              rintro e U1 ⟨ax1, cx1, rfl, hx1s, hu1⟩
              have kcell1 := (hu1.cell (World.block_lt_of_cell? wr _ kcell)).trans kcell
              have HN1 := hide (HNX1.out.below hu1)
              have HP1u := hide (HPX.out.belowW hu1)
              have HQ1u := hide (HQX.out.belowW hu1)
              have HB1u := hide (HBX.out.trans (hu1.mono HBX.out.size))
              have HX1s := hide hx1s
              have HY2 := hide (get_ok HG2.out HQ1u.out HD2.out)
              clear HY1 hu1 hx1s HPX HQX HBX HNX1
              go_wp2_with fail
              refine HY2.out.mono ?_
              rintro e U2 ⟨ax2, cx2, rfl, hx2s, hu2⟩
              have cv1 := run_str (HX1s.out.belowW hu2)
              have cv2 := run_str hx2s
              have HN2 := hide (HN1.out.below hu2)
              have HP2u := hide (HP1u.out.belowW hu2)
              have HQ2u := hide (HQ1u.out.belowW hu2)
              have HB2u := hide (HB1u.out.trans (hu2.mono HB1u.out.size))
              clear HY2 hu2 hx2s
              generalize strOf d = sd at *
              go_wp2
              go_roundw
              case rel => exact ⟨j + 1, by omega, by go_num, HN2.out, HP2u.out, HQ2u.out, HB2u.out⟩
              case measure => simp [intOf]; omega
            · have hjm : j = ml := by omega
              subst hjm
              by_cases hm0 : 0 < j
              · obtain ⟨c, hcl, hce⟩ := cut_of del j hm0
                have ht1 := tmod_low del j hm0
                have ht2 := tmod_high del j hm0
                obtain ⟨d, hd⟩ := slots_get g2 c (by rw [hml]; exact hcl)
                obtain ⟨gk, ok, rfl, kcell⟩ := HNX1.out c (by rw [hml]; exact hcl)
                have HY1 := hide (del_ok HG2.out HQX.out hd)
                have HGD := hide (del_good HG2.out (g2.slots.getD c 0))
                have HDN : Hid ((g2.del (g2.slots.getD c 0)).next = gn) := hgn
                generalize g2.slots.getD c 0 = sc at *
                clear hd
                have hmI : (0 : Int) < (j : Int) := by omega
                go_wp2_with fail
                refine HY1.out.mono ?_
                rintro e U1 ⟨ar, cr, rfl, hr1, hu1⟩
                have HP1u := hide (HPX.out.belowW hu1)
                have HQ1u := hide (HQX.out.belowW hu1)
                have HB1u := hide (HBX.out.trans (hu1.mono HBX.out.size))
                have HY2 := hide (next_ok HGD.out hr1)
                rw [HDN.out] at HY2
                clear HY1 hu1 hr1 HPX HQX HBX kcell hce ht1 ht2
                go_wp2_with fail
                refine HY2.out.mono ?_
                rintro e U2 ⟨rfl, hu2⟩
                have HPU := hide (HP1u.out.belowW hu2)
                have HQU := hide (HQ1u.out.belowW hu2)
                have HBU := hide (HB1u.out.trans (hu2.mono HB1u.out.size))
                have HY3 := hide (next_ok HG2.out HQU.out)
                rw [hgn] at HY3
                clear HY2 hu2
                go_wp2_with (go_at_call 11; refine HY3.out.mono ?_; rintro e U3 ⟨rfl, hu3⟩)
                have HPE := hide (HPU.out.belowW hu3)
                have HQE := hide (HQU.out.belowW hu3)
                have HBE := hide (HBU.out.trans (hu3.mono HBU.out.size))
                clear HY3 hu3 HPU HQU HBU HP1u HQ1u HB1u
                generalize U3 = WE at *
                refine wp_region_held_drew (S := fun w' => Sl w' (.slice ap 504 cp) g.enc) (by kernel_rfl) (HPE.out.belowW (below_drewN _ _ 1)) (fun hH => ?_)
                refine take_to 0 158 (.slice aq 504 cq) rfl (by kernel_rfl) (by kernel_rfl) (by kernel_rfl) (fun _ _ _ h => h) rfl (by rfl) (fun w hw => by rfl) hH ?_
                simp only [Act.put, List.setIfInBounds_toArray, List.set_cons_zero, List.set_cons_succ]
                refine take_to 1 159 (.slice ap 504 cp) rfl (by kernel_rfl) (by kernel_rfl) (by kernel_rfl) (fun _ _ _ h => h) rfl (by rfl) (fun w hw => by rfl) hH ?_
                simp only [Act.put, List.setIfInBounds_toArray, List.set_cons_zero, List.set_cons_succ]
                refine take_to 5 163 (.slice ap 504 cp) rfl (by kernel_rfl) (by kernel_rfl) (by kernel_rfl) (fun _ _ _ h => h) rfl (by rfl) (fun w hw => by rfl) hH ?_
                simp only [Act.put, List.setIfInBounds_toArray, List.set_cons_zero, List.set_cons_succ]
                refine take_to 6 164 (.string (strOf g.enc)) rfl (by kernel_rfl) (by kernel_rfl) (by kernel_rfl) (fun _ _ _ h => h) rfl (by rfl) (fun w hw => op_conv _ _ 23 9 (.tmp 163) rfl _ _ rfl (run_str hw)) hH ?_
                simp only [Act.put, List.setIfInBounds_toArray, List.set_cons_zero, List.set_cons_succ]
                refine step_call1_to 2 160 11 rfl (by kernel_rfl) rfl (by rfl) (.tmp 159) _ rfl _ rfl Try.enters11 (next_ok HG.out hH) ?_
                rintro e Z1 ⟨rfl, hz1⟩
                have hp1 : Sl Z1 (.slice ap 504 cp) g.enc := hH.belowW hz1
                have hq1 : Sl Z1 (.slice aq 504 cq) g2.enc := (HQE.out.belowW (below_drewN _ _ 1)).belowW hz1
                refine ⟨_, rfl, hp1, ?_⟩
                simp only [Act.put, List.setIfInBounds_toArray, List.set_cons_zero, List.set_cons_succ]
                refine step_call2_to 3 161 10 rfl (by kernel_rfl) rfl (by rfl) (.tmp 158) (.tmp 160) _ rfl _ _ rfl rfl Try.enters10 (setNext_ok HG2.out hq1 (g.next : Int)) ?_
                rintro e Z2 ⟨az, cz, rfl, hz2s, hz2⟩
                have hp2 : Sl Z2 (.slice ap 504 cp) g.enc := hp1.belowW hz2
                rw [HNN.out] at hz2s
                refine ⟨_, rfl, hp2, ?_⟩
                simp only [Act.put, List.setIfInBounds_toArray, List.set_cons_zero, List.set_cons_succ]
                refine step_to 4 162 (.string (strOf g.enc)) Z2 rfl (by kernel_rfl) rfl (by rfl) (op_conv _ _ 23 9 (.tmp 161) rfl _ _ rfl (run_str hz2s)) hp2 ?_
                simp only [Act.put, List.setIfInBounds_toArray, List.set_cons_zero, List.set_cons_succ]
                refine step_to 7 165 (.bool true) Z2 rfl (by kernel_rfl) rfl (by rfl) (op_eql9 _ _ (.tmp 162) (.tmp 164) 9 rfl _ rfl rfl) hp2 ?_
                simp only [Act.put, List.setIfInBounds_toArray, List.set_cons_zero, List.set_cons_succ]
                refine step_to 8 166 (.bool true) Z2 rfl (by kernel_rfl) rfl (by rfl) (rfl) hp2 ?_
                simp only [Act.put, List.setIfInBounds_toArray, List.set_cons_zero, List.set_cons_succ]
                refine step_call0_to 9 167 17 rfl (by kernel_rfl) rfl (by rfl) _ rfl Try.enters17 (awake_any Z2) ?_
                rintro e Z3 ⟨rfl, hz3⟩
                have hp3 : Sl Z3 (.slice ap 504 cp) g.enc := hp2.belowW hz3
                refine ⟨_, rfl, hp3, ?_⟩
                simp only [Act.put, List.setIfInBounds_toArray, List.set_cons_zero, List.set_cons_succ]
                refine step_to 10 168 (.bool true) Z3 rfl (by kernel_rfl) rfl (by rfl) (rfl) hp3 ?_
                simp only [Act.put, List.setIfInBounds_toArray, List.set_cons_zero, List.set_cons_succ]
                refine step_to 11 6 (.bool true) Z3 rfl (by kernel_rfl) rfl (by rfl) (rfl) hp3 ?_
                simp only [Act.put, List.setIfInBounds_toArray, List.set_cons_zero, List.set_cons_succ]
                refine wpAnyH_done (by kernel_rfl) ?_ _
                go_wp2
                go_ret
                have t0 := HBE.out.size
                have t1 : WE.heap.size ≤ Z1.heap.size := hz1.size
                have t2 := hz2.size
                exact ⟨rfl, (((HBE.out.trans (below_drewN _ _ 1)).trans (hz1.mono (by show _ ≤ WE.heap.size; omega))).trans (hz2.mono (by omega))).trans (hz3.mono (by omega))⟩
              · have hj0 : j = 0 := by omega
                have hmI : ¬ ((0 : Int) < (j : Int)) := by omega
                have HPE := hide HPX.out
                have HQE := hide HQX.out
                have HBE := hide HBX.out
                clear HPX HQX HBX HNX1
                go_wp2
                generalize wr = WE at *
                refine wp_region_held_drew (S := fun w' => Sl w' (.slice ap 504 cp) g.enc) (by kernel_rfl) (HPE.out.belowW (below_drewN _ _ 1)) (fun hH => ?_)
                refine take_to 0 158 (.slice aq 504 cq) rfl (by kernel_rfl) (by kernel_rfl) (by kernel_rfl) (fun _ _ _ h => h) rfl (by rfl) (fun w hw => by rfl) hH ?_
                simp only [Act.put, List.setIfInBounds_toArray, List.set_cons_zero, List.set_cons_succ]
                refine take_to 1 159 (.slice ap 504 cp) rfl (by kernel_rfl) (by kernel_rfl) (by kernel_rfl) (fun _ _ _ h => h) rfl (by rfl) (fun w hw => by rfl) hH ?_
                simp only [Act.put, List.setIfInBounds_toArray, List.set_cons_zero, List.set_cons_succ]
                refine take_to 5 163 (.slice ap 504 cp) rfl (by kernel_rfl) (by kernel_rfl) (by kernel_rfl) (fun _ _ _ h => h) rfl (by rfl) (fun w hw => by rfl) hH ?_
                simp only [Act.put, List.setIfInBounds_toArray, List.set_cons_zero, List.set_cons_succ]
                refine take_to 6 164 (.string (strOf g.enc)) rfl (by kernel_rfl) (by kernel_rfl) (by kernel_rfl) (fun _ _ _ h => h) rfl (by rfl) (fun w hw => op_conv _ _ 23 9 (.tmp 163) rfl _ _ rfl (run_str hw)) hH ?_
                simp only [Act.put, List.setIfInBounds_toArray, List.set_cons_zero, List.set_cons_succ]
                refine step_call1_to 2 160 11 rfl (by kernel_rfl) rfl (by rfl) (.tmp 159) _ rfl _ rfl Try.enters11 (next_ok HG.out hH) ?_
                rintro e Z1 ⟨rfl, hz1⟩
                have hp1 : Sl Z1 (.slice ap 504 cp) g.enc := hH.belowW hz1
                have hq1 : Sl Z1 (.slice aq 504 cq) g2.enc := (HQE.out.belowW (below_drewN _ _ 1)).belowW hz1
                refine ⟨_, rfl, hp1, ?_⟩
                simp only [Act.put, List.setIfInBounds_toArray, List.set_cons_zero, List.set_cons_succ]
                refine step_call2_to 3 161 10 rfl (by kernel_rfl) rfl (by rfl) (.tmp 158) (.tmp 160) _ rfl _ _ rfl rfl Try.enters10 (setNext_ok HG2.out hq1 (g.next : Int)) ?_
                rintro e Z2 ⟨az, cz, rfl, hz2s, hz2⟩
                have hp2 : Sl Z2 (.slice ap 504 cp) g.enc := hp1.belowW hz2
                rw [HNN.out] at hz2s
                refine ⟨_, rfl, hp2, ?_⟩
                simp only [Act.put, List.setIfInBounds_toArray, List.set_cons_zero, List.set_cons_succ]
                refine step_to 4 162 (.string (strOf g.enc)) Z2 rfl (by kernel_rfl) rfl (by rfl) (op_conv _ _ 23 9 (.tmp 161) rfl _ _ rfl (run_str hz2s)) hp2 ?_
                simp only [Act.put, List.setIfInBounds_toArray, List.set_cons_zero, List.set_cons_succ]
                refine step_to 7 165 (.bool true) Z2 rfl (by kernel_rfl) rfl (by rfl) (op_eql9 _ _ (.tmp 162) (.tmp 164) 9 rfl _ rfl rfl) hp2 ?_
                simp only [Act.put, List.setIfInBounds_toArray, List.set_cons_zero, List.set_cons_succ]
                refine step_to 8 166 (.bool true) Z2 rfl (by kernel_rfl) rfl (by rfl) (rfl) hp2 ?_
                simp only [Act.put, List.setIfInBounds_toArray, List.set_cons_zero, List.set_cons_succ]
                refine step_call0_to 9 167 17 rfl (by kernel_rfl) rfl (by rfl) _ rfl Try.enters17 (awake_any Z2) ?_
                rintro e Z3 ⟨rfl, hz3⟩
                have hp3 : Sl Z3 (.slice ap 504 cp) g.enc := hp2.belowW hz3
                refine ⟨_, rfl, hp3, ?_⟩
                simp only [Act.put, List.setIfInBounds_toArray, List.set_cons_zero, List.set_cons_succ]
                refine step_to 10 168 (.bool true) Z3 rfl (by kernel_rfl) rfl (by rfl) (rfl) hp3 ?_
                simp only [Act.put, List.setIfInBounds_toArray, List.set_cons_zero, List.set_cons_succ]
                refine step_to 11 6 (.bool true) Z3 rfl (by kernel_rfl) rfl (by rfl) (rfl) hp3 ?_
                simp only [Act.put, List.setIfInBounds_toArray, List.set_cons_zero, List.set_cons_succ]
                refine wpAnyH_done (by kernel_rfl) ?_ _
                go_wp2
                go_ret
                have t0 := HBE.out.size
                have t1 : WE.heap.size ≤ Z1.heap.size := hz1.size
                have t2 := hz2.size
                exact ⟨rfl, (((HBE.out.trans (below_drewN _ _ 1)).trans (hz1.mono (by show _ ≤ WE.heap.size; omega))).trans (hz2.mono (by omega))).trans (hz3.mono (by omega))⟩
        · have hn2 : ¬ (n < 4294967296) := by omega
          have hn1' : 0 ≤ n := by omega
          generalize strOf g.enc = st at *
          clear hn
          have HX1 := hide (next_ok HG2.out HQ1.out)
          generalize hgg : g.next' n = g2 at *
          have hnx := HNX.out
          generalize hgn : g2.next = gn at *
          have hqb : decide (n < 4294967296) = ((gn : Int) == n) := by rw [decide_eq_false (by omega)]; exact (beq_eq_false_iff_ne.2 hnx).symm
          go_wp2_with fail
          refine HX1.out.mono ?_
          rintro e V2 ⟨rfl, hv2⟩
          have HQ2 := hide (HQ1.out.belowW hv2)
          have HP2 := hide (HP1.out.belowW hv2)
          have HB2 := hide (HB1.out.trans (hv2.mono HB1.out.size))
          have HCP2 : (convert 23 9 (.slice ap 504 cp)).run Try.prog V2 = .ok (.string (strOf g.enc)) V2 := run_str HP2.out
          have HCQ2 : (convert 23 9 (.slice aq 504 cq)).run Try.prog V2 = .ok (.string (strOf g2.enc)) V2 := run_str HQ2.out
          rw [HEQ.out] at HCQ2
          generalize strOf g.enc = st2 at *
          have HX2 := hide (check_ok HG2.out HQ2.out)
          clear HX1 hv2 HQ1 HP1 HB1
          go_wp2_with fail
          refine HX2.out.mono ?_
          rintro e V3 ⟨rfl, hv3⟩
          have HQ3 := hide (HQ2.out.belowW hv3)
          have HP3 := hide (HP2.out.belowW hv3)
          have HB3 := hide (HB2.out.trans (hv3.mono HB2.out.size))
          have HX3 := hide (free_ok HG2.out HQ3.out)
          have HFR : Hid (g2.free = g.free) := by unfold Pg.free Pg.size; rw [Hid, HSLQ.out]
          rw [HFR.out] at HX3
          clear HX2 hv3 HQ2 HP2 HB2 HCP2 HCQ2
          go_wp2_with fail
          refine HX3.out.mono ?_
          rintro e V4 ⟨rfl, hv4⟩
          have HQ4 := hide (HQ3.out.belowW hv4)
          have HP4 := hide (HP3.out.belowW hv4)
          have HB4 := hide (HB3.out.trans (hv4.mono HB3.out.size))
          have HX4 := hide (free_ok HG.out HP4.out)
          clear HX3 hv4 HQ3 HP3 HB3
          go_wp2_with fail
          refine HX4.out.mono ?_
          rintro e V5 ⟨rfl, hv5⟩
          have HQ5 := hide (HQ4.out.belowW hv5)
          have HP5 := hide (HP4.out.belowW hv5)
          have HB5 := hide (HB4.out.trans (hv5.mono HB4.out.size))
          have HX5 := hide (slots_ok HG2.out HQ5.out)
          have HSS : Hid (g2.slots = g.slots) := by unfold Pg.slots; rw [Hid, HSLQ.out]
          clear HX4 hv5 HQ4 HP4 HB4
          have hmb : g2.slots.length ≤ 1000 := by
            have h1 := slotsOf_len g2.sl 0
            have h2 := HG2.out.size
            simp only [Pg.size, tsize] at h2
            unfold Pg.slots
            omega
          generalize hml : g2.slots.length = ml at *
          go_wp2_with fail
          refine HX5.out.mono ?_
          rintro e V6 ⟨as6, cs6, rfl, _, hv6⟩
          have HQ6 := hide (HQ5.out.belowW hv6)
          have HP6 := hide (HP5.out.belowW hv6)
          have HB6 := hide (HB5.out.trans (hv6.mono HB5.out.size))
          have HX6 := hide (slots_ok HG.out HP6.out)
          rw [← HSS.out, hml] at HX6
          clear HX5 hv6 HQ5 HP5 HB5
          go_wp2_with fail
          refine HX6.out.mono ?_
          rintro e V7 ⟨as7, cs7, rfl, _, hv7⟩
          have HQ7 := hide (HQ6.out.belowW hv7)
          have HP7 := hide (HP6.out.belowW hv7)
          have HB7 := hide (HB6.out.trans (hv7.mono HB6.out.size))
          have HX7 := hide (slots_ok HG2.out HQ7.out)
          rw [hml] at HX7
          clear HX6 hv7 HQ6 HP6 HB6
          go_wp2_with (go_at_call 14; refine HX7.out.mono ?_; rintro e V8 ⟨ak, ck, rfl, hown, hv8⟩)
          have HQ8 := hide (HQ7.out.belowW hv8)
          have HP8 := hide (HP7.out.belowW hv8)
          have HB8 := hide (HB7.out.trans (hv8.mono HB7.out.size))
          have HNA : Hid (NatsAt V8 ak g2.slots) := nats_of (by rw [hml]; exact hown)
          clear HX7 hv8 hown HQ7 HP7 HB7
          go_loopw [15] (fun i wx => ∃ j : Nat, j ≤ ml ∧ i = .int .i64 (j : Int) ∧ NatsAt wx ak g2.slots ∧ Sl wx (.slice ap 504 cp) g.enc ∧ Sl wx (.slice aq 504 cq) g2.enc ∧ Below w.heap.size w wx) (fun i _ => ml - (intOf i).toNat)
          case atStart => exact ⟨0, Nat.zero_le _, rfl, HNA.out, HP8.out, HQ8.out, HB8.out⟩
          case round =>
            obtain ⟨j, hj, rfl, hna, hpx, hqx, hbx⟩ := hrel
            have HNX1 := hide hna
            have HPX := hide hpx
            have HQX := hide hqx
            have HBX := hide hbx
            clear hna hpx hqx hbx HNA HP8 HQ8 HB8
            by_cases hjl : j < ml
            · obtain ⟨d, hd⟩ := slots_get g2 j (by rw [hml]; exact hjl)
              have hdp : g.sl.getD (g2.slots.getD j 0) none = some d := by rw [← HSLQ.out]; exact hd
              obtain ⟨gk, ok, rfl, kcell⟩ := HNX1.out j (by rw [hml]; exact hjl)
              have HY1 := hide (get_ok HG.out HPX.out hdp)
              have HD2 := hide hd
              clear hd hdp
              generalize g2.slots.getD j 0 = sj at *
              go_wp2_with fail
              refine HY1.out.mono ?_
              rintro e U1 ⟨ax1, cx1, rfl, hx1s, hu1⟩
              have kcell1 := (hu1.cell (World.block_lt_of_cell? wr _ kcell)).trans kcell
              have HN1 := hide (HNX1.out.below hu1)
              have HP1u := hide (HPX.out.belowW hu1)
              have HQ1u := hide (HQX.out.belowW hu1)
              have HB1u := hide (HBX.out.trans (hu1.mono HBX.out.size))
              have HX1s := hide hx1s
              have HY2 := hide (get_ok HG2.out HQ1u.out HD2.out)
              clear HY1 hu1 hx1s HPX HQX HBX HNX1
              go_wp2_with fail
              refine HY2.out.mono ?_
              rintro e U2 ⟨ax2, cx2, rfl, hx2s, hu2⟩
              have cv1 := run_str (HX1s.out.belowW hu2)
              have cv2 := run_str hx2s
              have HN2 := hide (HN1.out.below hu2)
              have HP2u := hide (HP1u.out.belowW hu2)
              have HQ2u := hide (HQ1u.out.belowW hu2)
              have HB2u := hide (HB1u.out.trans (hu2.mono HB1u.out.size))
              clear HY2 hu2 hx2s
              generalize strOf d = sd at *
              go_wp2
              go_roundw
              case rel => exact ⟨j + 1, by omega, by go_num, HN2.out, HP2u.out, HQ2u.out, HB2u.out⟩
              case measure => simp [intOf]; omega
            · have hjm : j = ml := by omega
              subst hjm
              by_cases hm0 : 0 < j
              · obtain ⟨c, hcl, hce⟩ := cut_of del j hm0
                have ht1 := tmod_low del j hm0
                have ht2 := tmod_high del j hm0
                obtain ⟨d, hd⟩ := slots_get g2 c (by rw [hml]; exact hcl)
                obtain ⟨gk, ok, rfl, kcell⟩ := HNX1.out c (by rw [hml]; exact hcl)
                have HY1 := hide (del_ok HG2.out HQX.out hd)
                have HGD := hide (del_good HG2.out (g2.slots.getD c 0))
                have HDN : Hid ((g2.del (g2.slots.getD c 0)).next = gn) := hgn
                generalize g2.slots.getD c 0 = sc at *
                clear hd
                have hmI : (0 : Int) < (j : Int) := by omega
                go_wp2_with fail
                refine HY1.out.mono ?_
                rintro e U1 ⟨ar, cr, rfl, hr1, hu1⟩
                have HP1u := hide (HPX.out.belowW hu1)
                have HQ1u := hide (HQX.out.belowW hu1)
                have HB1u := hide (HBX.out.trans (hu1.mono HBX.out.size))
                have HY2 := hide (next_ok HGD.out hr1)
                rw [HDN.out] at HY2
                clear HY1 hu1 hr1 HPX HQX HBX kcell hce ht1 ht2
                go_wp2_with fail
                refine HY2.out.mono ?_
                rintro e U2 ⟨rfl, hu2⟩
                have HPU := hide (HP1u.out.belowW hu2)
                have HQU := hide (HQ1u.out.belowW hu2)
                have HBU := hide (HB1u.out.trans (hu2.mono HB1u.out.size))
                have HY3 := hide (next_ok HG2.out HQU.out)
                rw [hgn] at HY3
                clear HY2 hu2
                go_wp2_with (go_at_call 11; refine HY3.out.mono ?_; rintro e U3 ⟨rfl, hu3⟩)
                have HPE := hide (HPU.out.belowW hu3)
                have HQE := hide (HQU.out.belowW hu3)
                have HBE := hide (HBU.out.trans (hu3.mono HBU.out.size))
                clear HY3 hu3 HPU HQU HBU HP1u HQ1u HB1u
                generalize U3 = WE at *
                refine wp_region_held_drew (S := fun w' => Sl w' (.slice ap 504 cp) g.enc) (by kernel_rfl) (HPE.out.belowW (below_drewN _ _ 1)) (fun hH => ?_)
                refine take_to 0 158 (.slice aq 504 cq) rfl (by kernel_rfl) (by kernel_rfl) (by kernel_rfl) (fun _ _ _ h => h) rfl (by rfl) (fun w hw => by rfl) hH ?_
                simp only [Act.put, List.setIfInBounds_toArray, List.set_cons_zero, List.set_cons_succ]
                refine take_to 1 159 (.slice ap 504 cp) rfl (by kernel_rfl) (by kernel_rfl) (by kernel_rfl) (fun _ _ _ h => h) rfl (by rfl) (fun w hw => by rfl) hH ?_
                simp only [Act.put, List.setIfInBounds_toArray, List.set_cons_zero, List.set_cons_succ]
                refine take_to 5 163 (.slice ap 504 cp) rfl (by kernel_rfl) (by kernel_rfl) (by kernel_rfl) (fun _ _ _ h => h) rfl (by rfl) (fun w hw => by rfl) hH ?_
                simp only [Act.put, List.setIfInBounds_toArray, List.set_cons_zero, List.set_cons_succ]
                refine take_to 6 164 (.string (strOf g.enc)) rfl (by kernel_rfl) (by kernel_rfl) (by kernel_rfl) (fun _ _ _ h => h) rfl (by rfl) (fun w hw => op_conv _ _ 23 9 (.tmp 163) rfl _ _ rfl (run_str hw)) hH ?_
                simp only [Act.put, List.setIfInBounds_toArray, List.set_cons_zero, List.set_cons_succ]
                refine step_call1_to 2 160 11 rfl (by kernel_rfl) rfl (by rfl) (.tmp 159) _ rfl _ rfl Try.enters11 (next_ok HG.out hH) ?_
                rintro e Z1 ⟨rfl, hz1⟩
                have hp1 : Sl Z1 (.slice ap 504 cp) g.enc := hH.belowW hz1
                have hq1 : Sl Z1 (.slice aq 504 cq) g2.enc := (HQE.out.belowW (below_drewN _ _ 1)).belowW hz1
                refine ⟨_, rfl, hp1, ?_⟩
                simp only [Act.put, List.setIfInBounds_toArray, List.set_cons_zero, List.set_cons_succ]
                refine step_call2_to 3 161 10 rfl (by kernel_rfl) rfl (by rfl) (.tmp 158) (.tmp 160) _ rfl _ _ rfl rfl Try.enters10 (setNext_ok HG2.out hq1 (g.next : Int)) ?_
                rintro e Z2 ⟨az, cz, rfl, hz2s, hz2⟩
                have hp2 : Sl Z2 (.slice ap 504 cp) g.enc := hp1.belowW hz2
                rw [HNN.out] at hz2s
                refine ⟨_, rfl, hp2, ?_⟩
                simp only [Act.put, List.setIfInBounds_toArray, List.set_cons_zero, List.set_cons_succ]
                refine step_to 4 162 (.string (strOf g.enc)) Z2 rfl (by kernel_rfl) rfl (by rfl) (op_conv _ _ 23 9 (.tmp 161) rfl _ _ rfl (run_str hz2s)) hp2 ?_
                simp only [Act.put, List.setIfInBounds_toArray, List.set_cons_zero, List.set_cons_succ]
                refine step_to 7 165 (.bool true) Z2 rfl (by kernel_rfl) rfl (by rfl) (op_eql9 _ _ (.tmp 162) (.tmp 164) 9 rfl _ rfl rfl) hp2 ?_
                simp only [Act.put, List.setIfInBounds_toArray, List.set_cons_zero, List.set_cons_succ]
                refine step_to 8 166 (.bool true) Z2 rfl (by kernel_rfl) rfl (by rfl) (rfl) hp2 ?_
                simp only [Act.put, List.setIfInBounds_toArray, List.set_cons_zero, List.set_cons_succ]
                refine step_call0_to 9 167 17 rfl (by kernel_rfl) rfl (by rfl) _ rfl Try.enters17 (awake_any Z2) ?_
                rintro e Z3 ⟨rfl, hz3⟩
                have hp3 : Sl Z3 (.slice ap 504 cp) g.enc := hp2.belowW hz3
                refine ⟨_, rfl, hp3, ?_⟩
                simp only [Act.put, List.setIfInBounds_toArray, List.set_cons_zero, List.set_cons_succ]
                refine step_to 10 168 (.bool true) Z3 rfl (by kernel_rfl) rfl (by rfl) (rfl) hp3 ?_
                simp only [Act.put, List.setIfInBounds_toArray, List.set_cons_zero, List.set_cons_succ]
                refine step_to 11 6 (.bool true) Z3 rfl (by kernel_rfl) rfl (by rfl) (rfl) hp3 ?_
                simp only [Act.put, List.setIfInBounds_toArray, List.set_cons_zero, List.set_cons_succ]
                refine wpAnyH_done (by kernel_rfl) ?_ _
                go_wp2
                go_ret
                have t0 := HBE.out.size
                have t1 : WE.heap.size ≤ Z1.heap.size := hz1.size
                have t2 := hz2.size
                exact ⟨rfl, (((HBE.out.trans (below_drewN _ _ 1)).trans (hz1.mono (by show _ ≤ WE.heap.size; omega))).trans (hz2.mono (by omega))).trans (hz3.mono (by omega))⟩
              · have hj0 : j = 0 := by omega
                have hmI : ¬ ((0 : Int) < (j : Int)) := by omega
                have HPE := hide HPX.out
                have HQE := hide HQX.out
                have HBE := hide HBX.out
                clear HPX HQX HBX HNX1
                go_wp2
                generalize wr = WE at *
                refine wp_region_held_drew (S := fun w' => Sl w' (.slice ap 504 cp) g.enc) (by kernel_rfl) (HPE.out.belowW (below_drewN _ _ 1)) (fun hH => ?_)
                refine take_to 0 158 (.slice aq 504 cq) rfl (by kernel_rfl) (by kernel_rfl) (by kernel_rfl) (fun _ _ _ h => h) rfl (by rfl) (fun w hw => by rfl) hH ?_
                simp only [Act.put, List.setIfInBounds_toArray, List.set_cons_zero, List.set_cons_succ]
                refine take_to 1 159 (.slice ap 504 cp) rfl (by kernel_rfl) (by kernel_rfl) (by kernel_rfl) (fun _ _ _ h => h) rfl (by rfl) (fun w hw => by rfl) hH ?_
                simp only [Act.put, List.setIfInBounds_toArray, List.set_cons_zero, List.set_cons_succ]
                refine take_to 5 163 (.slice ap 504 cp) rfl (by kernel_rfl) (by kernel_rfl) (by kernel_rfl) (fun _ _ _ h => h) rfl (by rfl) (fun w hw => by rfl) hH ?_
                simp only [Act.put, List.setIfInBounds_toArray, List.set_cons_zero, List.set_cons_succ]
                refine take_to 6 164 (.string (strOf g.enc)) rfl (by kernel_rfl) (by kernel_rfl) (by kernel_rfl) (fun _ _ _ h => h) rfl (by rfl) (fun w hw => op_conv _ _ 23 9 (.tmp 163) rfl _ _ rfl (run_str hw)) hH ?_
                simp only [Act.put, List.setIfInBounds_toArray, List.set_cons_zero, List.set_cons_succ]
                refine step_call1_to 2 160 11 rfl (by kernel_rfl) rfl (by rfl) (.tmp 159) _ rfl _ rfl Try.enters11 (next_ok HG.out hH) ?_
                rintro e Z1 ⟨rfl, hz1⟩
                have hp1 : Sl Z1 (.slice ap 504 cp) g.enc := hH.belowW hz1
                have hq1 : Sl Z1 (.slice aq 504 cq) g2.enc := (HQE.out.belowW (below_drewN _ _ 1)).belowW hz1
                refine ⟨_, rfl, hp1, ?_⟩
                simp only [Act.put, List.setIfInBounds_toArray, List.set_cons_zero, List.set_cons_succ]
                refine step_call2_to 3 161 10 rfl (by kernel_rfl) rfl (by rfl) (.tmp 158) (.tmp 160) _ rfl _ _ rfl rfl Try.enters10 (setNext_ok HG2.out hq1 (g.next : Int)) ?_
                rintro e Z2 ⟨az, cz, rfl, hz2s, hz2⟩
                have hp2 : Sl Z2 (.slice ap 504 cp) g.enc := hp1.belowW hz2
                rw [HNN.out] at hz2s
                refine ⟨_, rfl, hp2, ?_⟩
                simp only [Act.put, List.setIfInBounds_toArray, List.set_cons_zero, List.set_cons_succ]
                refine step_to 4 162 (.string (strOf g.enc)) Z2 rfl (by kernel_rfl) rfl (by rfl) (op_conv _ _ 23 9 (.tmp 161) rfl _ _ rfl (run_str hz2s)) hp2 ?_
                simp only [Act.put, List.setIfInBounds_toArray, List.set_cons_zero, List.set_cons_succ]
                refine step_to 7 165 (.bool true) Z2 rfl (by kernel_rfl) rfl (by rfl) (op_eql9 _ _ (.tmp 162) (.tmp 164) 9 rfl _ rfl rfl) hp2 ?_
                simp only [Act.put, List.setIfInBounds_toArray, List.set_cons_zero, List.set_cons_succ]
                refine step_to 8 166 (.bool true) Z2 rfl (by kernel_rfl) rfl (by rfl) (rfl) hp2 ?_
                simp only [Act.put, List.setIfInBounds_toArray, List.set_cons_zero, List.set_cons_succ]
                refine step_call0_to 9 167 17 rfl (by kernel_rfl) rfl (by rfl) _ rfl Try.enters17 (awake_any Z2) ?_
                rintro e Z3 ⟨rfl, hz3⟩
                have hp3 : Sl Z3 (.slice ap 504 cp) g.enc := hp2.belowW hz3
                refine ⟨_, rfl, hp3, ?_⟩
                simp only [Act.put, List.setIfInBounds_toArray, List.set_cons_zero, List.set_cons_succ]
                refine step_to 10 168 (.bool true) Z3 rfl (by kernel_rfl) rfl (by rfl) (rfl) hp3 ?_
                simp only [Act.put, List.setIfInBounds_toArray, List.set_cons_zero, List.set_cons_succ]
                refine step_to 11 6 (.bool true) Z3 rfl (by kernel_rfl) rfl (by rfl) (rfl) hp3 ?_
                simp only [Act.put, List.setIfInBounds_toArray, List.set_cons_zero, List.set_cons_succ]
                refine wpAnyH_done (by kernel_rfl) ?_ _
                go_wp2
                go_ret
                have t0 := HBE.out.size
                have t1 : WE.heap.size ≤ Z1.heap.size := hz1.size
                have t2 := hz2.size
                exact ⟨rfl, (((HBE.out.trans (below_drewN _ _ 1)).trans (hz1.mono (by show _ ≤ WE.heap.size; omega))).trans (hz2.mono (by omega))).trans (hz3.mono (by omega))⟩
end Go.Proofs.Ytdddeneppciiiaa
