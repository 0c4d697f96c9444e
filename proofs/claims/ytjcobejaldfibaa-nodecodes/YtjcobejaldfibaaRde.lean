/- The document's Decode. -/
import Derived.Test.YtjcobejaldfibaaRdq
import Derived.Deep.DeepCutAuto
namespace Go.Proofs.Ytjcobejaldfibaa
open Go.RowKit
set_option linter.unusedVariables false
set_option linter.unusedSimpArgs false

theorem op_call2r {P : Program} {ops : Array Oper} {Q : Exit → Act → World → Prop} {o : Oper} {a : Act} {w : World} {K : Act → World → Prop} {i : Nat} {R : Ending → World → Prop} (dst f : Nat) (hi : ops[i]? = some o)
    (hd : o.dst = some dst) (hw : Region.wanted o (yielded ops a.tmps) = true) (x y : Operand) (ts : Array TypeId) (hop : o.op = Op.call { callee := Callee.value (Operand.func f), args := #[x, y], argTypes := ts })
    (vx vy : Value) (hx : a.eval x = vx) (hy : a.eval y = vy) (hcf : ∀ args w, (callFunc f args).run P w = .ok (.enter f args) w) (hc : Calls P f #[vx, vy] w R)
    (hK : ∀ e w', R e w' → ∃ v, e = .returned v ∧ K (a.put (some dst) v) w') : wpOp P ops Q i K a w := by
  refine wpOp_step hi (fun K' hK' => ?_)
  rw [if_pos hw]
  have hrun : (execOp a.eval o).run P w = .ok (.enter f #[vx, vy]) w := by
    have hff : a.eval (.func f) = .func (.func f) #[] #[] := rfl
    unfold execOp
    simp [hop, resolve, hff, Deferred.ofValue, invoke, hx, hy]
    exact hcf _ _
  unfold Oper.wp
  rw [hrun, Oper.upon_enter]
  refine hc.mono ?_
  intro e w' hR
  obtain ⟨v, rfl, hW⟩ := hK e w' hR
  show K' (a.put o.dst v) w'
  rw [hd]
  exact hK' _ _ hW
theorem row_str (W : World) (s : List UInt8) : Row (W.alloc (.cells #[.string (strOf s)] 9)) (.slice (some ⟨W.heap.size, 0, none⟩) 1 1) 1 [.string (strOf s)] :=
  ⟨_, 1, rfl, Nat.le_refl _, by simp only [maxLen]; omega, fun _ => ⟨W.heap.size, 0, rfl, fun j u hu => by rw [Nat.zero_add, cell_row (heap_alloc_new W _)]; simpa using hu⟩⟩
theorem nout_ok {c n : Nat} {R R' : List UInt8} {b : Bool} (hl : c ≤ R.length) (h : NOut c R false n R' b) : b = false ∧ n = beval (R.take c) ∧ R' = R.drop c := by
  rcases h with ⟨_, rfl, hr⟩ | ⟨_, _, _, hr⟩
  · rw [rd_some hl] at hr
    simp only [Option.some.injEq, Prod.mk.injEq] at hr
    exact ⟨rfl, hr.1.symm, hr.2.symm⟩
  · rcases hr with hr | hr
    · cases hr
    · rw [rd_some hl] at hr; cases hr
theorem nout_lt {n : Nat} {R R' : List UInt8} {b b' : Bool} (h : NOut 2 R b n R' b') : n ≤ 1000000 := by
  rcases h with ⟨_, _, hr⟩ | ⟨_, rfl, _, _⟩
  · unfold rd at hr
    split at hr
    · simp only [Option.some.injEq, Prod.mk.injEq] at hr
      have := beval_lt2 R
      omega
    · cases hr
  · omega
theorem RSr.gr {w W W' : World} {lf : Bool} {nx : Int} {k v i u : Value} {s : PS} {bad : Bool} {ra : Option Addr} {rc n : Nat} {e : TypeId} {xs : List Value} (h : RSr w W lf nx k v i s bad ra rc) (ho : W.ownsRow (w.heap.size + 1 + 1 + 1) e 1 u n xs) (he : (43 : TypeId) ≠ e) (hg : W.grownBy W' u.ownBlock) : Below w.heap.size w W' ∧ Box 43 W' (w.heap.size + 1 + 1) (.bool lf) k v i (.int .i64 nx) :=
  ⟨below_off h.below ((Off.refl u.ownBlock.toList W).grown hg (fun q hq => .inl (by rw [hq]; simp))) (fun q hq => by have := (ho.lt q (by simpa using hq)).1; omega), h.m.oth ((Oth.refl _ _).grown ho hg) he⟩
theorem enc_val {w w' : World} {N : Nd} {e : Ending} (h : EncEnd w N e w') : ∃ v c, e = .returned (.tuple #[v, .int .i64 c]) := by
  rcases h.out with ⟨_, rfl⟩ | ⟨_, _, rfl⟩ | ⟨_, _, v, rfl, _⟩
  · exact ⟨_, _, rfl⟩
  · exact ⟨_, _, rfl⟩
  · exact ⟨_, _, rfl⟩
theorem RSr.rdat {w W : World} {lf : Bool} {nx : Nat} {k v i : Value} {s : PS} {bad : Bool} {ra : Option Addr} {rc : Nat} (h : RSr w W lf (nx : Int) k v i s bad ra rc) : RdAt W (ndOf lf nx s) k v i :=
  ⟨Row.of_owns h.ok, Row.of_owns h.ov, Row.of_owns h.oi⟩
theorem RSr.rdat' {w W : World} {lf : Bool} {nx : Nat} {k v i : Value} {s : PS} {bad : Bool} {ra : Option Addr} {rc : Nat} (h : RSr w W lf (nx : Int) k v i s bad ra rc) (c0 c1 c2 c3 c4 : Value) : RdAt (((((W.setCell ⟨w.heap.size, 0, none⟩ c0).setCell ⟨w.heap.size, 1, none⟩ c1).setCell ⟨w.heap.size, 2, none⟩ c2).setCell ⟨w.heap.size, 3, none⟩ c3).setCell ⟨w.heap.size, 4, none⟩ c4) (ndOf lf nx s) k v i :=
  ⟨Row.of_owns (owns_sets h.ok h.y.heap (by decide) c0 c1 c2 c3 c4), Row.of_owns (owns_sets h.ov h.y.heap (by decide) c0 c1 c2 c3 c4), Row.of_owns (owns_sets h.oi h.y.heap (by decide) c0 c1 c2 c3 c4)⟩
theorem linvS {R7 : List UInt8} {c : Nat} (hR : R7.length ≤ 504) : LInv true R7 c 0 ⟨[], [], [], R7⟩ false :=
  ⟨.inl ⟨rfl, rfl⟩, ⟨by simp, by simp, by simp, fun k hk => by simp at hk, fun k hk => by simp at hk, hR⟩⟩
set_option maxHeartbeats 8000000 in
set_option maxRecDepth 100000 in
theorem rdecode_any {w : World} {pv : Value} {bs : List UInt8} (h : Sl w pv bs) : Calls Try.prog 20 #[pv] w (RcEnd w bs) := by
  obtain ⟨pa, pc, rfl, hpn, hpc⟩ := h.len
  simp only [maxLen] at hpc
  have HBY : Hid (Below w.heap.size w (w.alloc (.cells #[.bool false, .slice none 0 0, .slice none 0 0, .slice none 0 0, .int .i64 0] 43))) := (Below.refl _ _).alloc (Nat.le_refl _) _
  have HY0 : Hid (Box 43 (w.alloc (.cells #[.bool false, .slice none 0 0, .slice none 0 0, .slice none 0 0, .int .i64 0] 43)) w.heap.size (.bool false) (.slice none 0 0) (.slice none 0 0) (.slice none 0 0) (.int .i64 0)) := Box.new _ _ _ _ _ _
  by_cases h504 : bs.length = 504
  · obtain ⟨g0, o0, hpa, hc0⟩ := h.get 0 (by omega)
    subst hpa
    have hc0 : w.cell? ⟨g0, o0, none⟩ = some (.int .u8 ((bs.getD 0 0).toNat : Int)) := hc0
    have HL := hide h504
    have HSS : Hid (∀ lf, RSr w (((w.alloc (.cells #[.bool false, .slice none 0 0, .slice none 0 0, .slice none 0 0, .int .i64 0] 43)).alloc (.cells #[.slice (cutAt (some ⟨g0, o0, none⟩) pc 1) 503 (pc - 1), .bool false] 78)).alloc (.cells #[.bool lf, .slice none 0 0, .slice none 0 0, .slice none 0 0, .int .i64 0] 43)) lf 0 (.slice none 0 0) (.slice none 0 0) (.slice none 0 0) ⟨[], [], [], bs.drop 1⟩ false (cutAt (some ⟨g0, o0, none⟩) pc 1) (pc - 1)) := fun lf => by
      have := RSr.start lf h (by omega)
      rw [h504] at this
      exact this
    have HSB : Hid (Sl w (.slice (some ⟨g0, o0, none⟩) 504 pc) bs) := by rw [h504] at h; exact h
    have hg0 := World.block_lt_of_cell? w _ hc0
    have hcA : (w.alloc (.cells #[.bool false, .slice none 0 0, .slice none 0 0, .slice none 0 0, .int .i64 0] 43)).cell? ⟨g0, o0, none⟩ = some (.int .u8 ((bs.getD 0 0).toNat : Int)) := (HBY.out.cell (p := ⟨g0, o0, none⟩) hg0).trans hc0
    have hcB : ((w.alloc (.cells #[.bool false, .slice none 0 0, .slice none 0 0, .slice none 0 0, .int .i64 0] 43)).alloc (.cells #[.slice (cutAt (some ⟨g0, o0, none⟩) pc 1) (504 - 1) (pc - 1), .bool false] 78)).cell? ⟨g0, o0, none⟩ = some (.int .u8 ((bs.getD 0 0).toNat : Int)) := ((HBY.out.alloc HBY.out.size _).cell (p := ⟨g0, o0, none⟩) hg0).trans hc0
    have hcut : (Instr.sliceAt 28 (.slice (some ⟨g0, o0, none⟩) 504 pc) (some (.int .i64 1)) none none).run Try.prog (w.alloc (.cells #[.bool false, .slice none 0 0, .slice none 0 0, .slice none 0 0, .int .i64 0] 43)) = .ok (.slice (cutAt (some ⟨g0, o0, none⟩) pc 1) (504 - 1) (pc - 1)) (w.alloc (.cells #[.bool false, .slice none 0 0, .slice none 0 0, .slice none 0 0, .int .i64 0] 43)) := run_cut_from _ _ 504 pc 1 (by omega)
    rw [h504]
    clear h504
    generalize hkb : (bs.getD 0 0).toNat = kn at *
    have HKF := hide hkb
    clear hkb hc0 h
    generalize cutAt (some ⟨g0, o0, none⟩) pc 1 = ra1 at *
    by_cases h1 : kn = 1
    · subst h1
      have HKD : Hid ((bs.getD 0 0).toNat = if true then 1 else 2) := HKF.out
      clear HKF
      have HS0 := hide (HSS.out true)
      as_aux_lemma =>
        have HDQ := hide (dcf_yes (lf := true) HL.out HKD.out)
        have HPQ : Hid (∀ s, pl true (start true (((bs.drop 1).drop 2).drop 4)) (beval ((bs.drop 1).take 2)) = some s → bs = (ndOf true (beval (((bs.drop 1).drop 2).take 4)) s).body ++ s.rest) := fun s hp => page_back HL.out HKD.out hp
        have HBL : Hid (beval ((bs.drop 1).take 2) < 65536) := beval_lt2 (bs.drop 1)
        have HB1 : Hid ((bs.drop 1).length = 503) := by rw [Hid, List.length_drop, HL.out]
        generalize bs.drop 1 = B1 at *
        go_enter Try.func20, Try.ntmps20
        go_upto_region 5 with fail
        clear HBY HY0 hcA hcB hcut HSS HKD
        generalize (((w.alloc (.cells #[.bool false, .slice none 0 0, .slice none 0 0, .slice none 0 0, .int .i64 0] 43)).alloc (.cells #[.slice ra1 503 (pc - 1), .bool false] 78)).alloc (.cells #[.bool true, .slice none 0 0, .slice none 0 0, .slice none 0 0, .int .i64 0] 43)) = W0 at *
        have HN1 : Hid (Calls Try.prog 45 #[.pointer (some ⟨w.heap.size + 1, 0, none⟩), .int .i64 2] W0 (RNumEnd W0 (w.heap.size + 1) ra1 (pc - 1) B1 false 2)) := rnum_any HS0.out.rd 2 (by omega)
        go_wp2_with fail
        refine HN1.out.mono ?_
        rintro e W1 hE
        obtain ⟨cc, R1, b1, ra2, rc2, rfl, hs1, hn1⟩ := HS0.out.num hE
        obtain ⟨rfl, ecc, eR1⟩ := nout_ok (by show 2 ≤ B1.length; rw [HB1.out]; omega) hn1
        have HS1 : Hid (RSr w W1 true 0 (.slice none 0 0) (.slice none 0 0) (.slice none 0 0) ⟨[], [], [], R1⟩ false ra2 rc2) := hs1
        have HCC : Hid (cc = beval (B1.take 2)) := ecc
        have HR1 : Hid (R1 = B1.drop 2) := eR1
        have HCL : Hid (cc < 65536) := by rw [HCC.out]; exact HBL.out
        have HRQ : Hid (R1.length = 501) := by rw [HR1.out, Hid, List.length_drop, HB1.out]
        clear hE hs1 hn1 HN1 HS0 ecc eR1 HBL
        go_upto_region 6 with fail
        have HN2 : Hid (Calls Try.prog 45 #[.pointer (some ⟨w.heap.size + 1, 0, none⟩), .int .i64 4] W1 (RNumEnd W1 (w.heap.size + 1) ra2 rc2 R1 false 4)) := rnum_any HS1.out.rd 4 (by omega)
        go_wp2_with fail
        refine HN2.out.mono ?_
        rintro e W2 hE
        obtain ⟨nx, R7, b2, ra3, rc3, rfl, hs2, hn2⟩ := HS1.out.num hE
        obtain ⟨rfl, ex0, eR0⟩ := nout_ok (by show 4 ≤ R1.length; rw [HRQ.out]; omega) hn2
        have enx : nx = beval (R1.take 4) := ex0
        have eR7 : R7 = R1.drop 4 := eR0
        have HS2 : Hid (RSr w W2 true 0 (.slice none 0 0) (.slice none 0 0) (.slice none 0 0) ⟨[], [], [], R7⟩ false ra3 rc3) := hs2
        have HRL : Hid (R7.length ≤ 504) := by rw [eR7, Hid, List.length_drop, HRQ.out]; omega
        have HDC : Hid (dcf bs = fin true nx (pl true (start true R7) cc)) := by rw [eR7, enx, HR1.out, HCC.out]; exact HDQ.out
        have HPB : Hid (∀ s, pl true (start true R7) cc = some s → bs = (ndOf true nx s).body ++ s.rest) := by rw [eR7, enx, HR1.out, HCC.out]; exact HPQ.out
        clear hE hs2 hn2 HN2 HS1 ex0 eR0 enx eR7 HDQ HPQ HR1 HCC HRQ HB1
        have HS3 := hide (HS2.out.setN (nx : Int))
        obtain ⟨k0, k1, k2, k3, k4, f0, f1, f2, f3, f4⟩ := HS2.out.m.cells
        go_upto_region 7 with fail
        clear k0 k1 k2 k3 k4 f0 f1 f2 f3 f4 HS2
        generalize W2.setCell ⟨w.heap.size + 1 + 1, 4, none⟩ (.int .i64 (nx : Int)) = W3 at *
        obtain ⟨k0, k1, k2, k3, k4, f0, f1, f2, f3, f4⟩ := HS3.out.m.cells
        go_wp2
        clear k0 k1 k2 k3 k4 f0 f1 f2 f3 f4
        have HST : Hid (∃ (s : PS) (bad : Bool) (pk pv pi : Value) (ra : Option Addr) (rc : Nat), LInv true R7 cc 0 s bad ∧ RSr w W3 true (nx : Int) pk pv pi s bad ra rc) := ⟨_, _, _, _, _, _, _, linvS HRL.out, HS3.out⟩
        clear HS3
        go_loopw [7] (fun i wr => ∃ (j : Nat) (s : PS) (bad : Bool) (pk pv pi : Value) (ra : Option Addr) (rc : Nat), j ≤ cc ∧ i = .int .i64 (j : Int) ∧ Hid (LInv true R7 cc j s bad) ∧ Hid (RSr w wr true (nx : Int) pk pv pi s bad ra rc)) (fun i _ => cc - (intOf i).toNat)
        case atStart =>
          obtain ⟨s, bad, pk, pv, pi, ra, rc, h1, h2⟩ := HST.out
          exact ⟨0, s, bad, pk, pv, pi, ra, rc, by omega, rfl, h1, h2⟩
        case round =>
          obtain ⟨j, s, bad, pk, pv, pi, ra, rc, hj, rfl, HLI, HD⟩ := hrel
          have hcl : cc < 65536 := HCL.out
          have HF := hide HLI.out.2
          clear HST
          cases bad with
          | true =>
            have HNO : Hid (dcf bs = none) := by
              rcases HLI.out.1 with ⟨e, _⟩ | ⟨_, e⟩
              · cases e
              · rw [Hid, HDC.out, e]
                rfl
            have hrb : wr.cell? ⟨w.heap.size + 1, 1, none⟩ = some (.bool true) := by rw [cell_row HD.out.r]; rfl
            by_cases hjc : j < cc
            · go_upto_region 16 with fail
              clear hrb
              as_aux_lemma =>
                have HENC : Hid (Calls Try.prog 18 #[.agg #[.bool true, pk, pv, pi, .int .i64 (nx : Int)]] wr (EncEnd wr (ndOf true nx s))) := rencode_any (N := ndOf true nx s) HD.out.rdat (HF.out.fits (by omega) true nx)
                have hbad : wr.cell? ⟨w.heap.size + 1, 1, none⟩ = some (.bool true) := by rw [cell_row HD.out.r]; rfl
                obtain ⟨k0, k1, k2, k3, k4, f0, f1, f2, f3, f4⟩ := HD.out.m.cells
                go_wp2_with fail
                refine HENC.out.mono ?_
                clear k0 k1 k2 k3 k4 f0 f1 f2 f3 f4 hbad HENC
                rintro e W8 hE
                have HD8 := hide (HD.out.next hE.below)
                have hbad : W8.cell? ⟨w.heap.size + 1, 1, none⟩ = some (.bool true) := by rw [cell_row HD8.out.r]; rfl
                obtain ⟨v8, c8, rfl⟩ := enc_val hE
                clear hE HD
                obtain ⟨l0, l1, l2, l3, l4, i0, i1, i2, i3, i4⟩ := HD8.out.y.cells
                go_wp2
                refine bodyPost_ret (v := .tuple #[.agg #[.bool false, .slice none 0 0, .slice none 0 0, .slice none 0 0, .int .i64 0], .bool false]) (results_ct Try.results20 _ _ w.heap.size 43 #[.bool false, .slice none 0 0, .slice none 0 0, .slice none 0 0, .int .i64 0] (0, 0) _ rfl (HD8.out.y.setAll _ _ _ _ _).heap Try.underlying43 rfl Try.size43) rfl ?_
                exact RcEnd.no HNO.out (below_setAll HD8.out.below w.heap.size _ _ _ _ _ (Nat.le_refl _) HD8.out.below.size)
            · have hje : j = cc := by omega
              subst hje
              go_upto_region 16 with fail
              clear hrb
              as_aux_lemma =>
                have HENC : Hid (Calls Try.prog 18 #[.agg #[.bool true, pk, pv, pi, .int .i64 (nx : Int)]] wr (EncEnd wr (ndOf true nx s))) := rencode_any (N := ndOf true nx s) HD.out.rdat (HF.out.fits (by omega) true nx)
                have hbad : wr.cell? ⟨w.heap.size + 1, 1, none⟩ = some (.bool true) := by rw [cell_row HD.out.r]; rfl
                obtain ⟨k0, k1, k2, k3, k4, f0, f1, f2, f3, f4⟩ := HD.out.m.cells
                go_wp2_with fail
                refine HENC.out.mono ?_
                clear k0 k1 k2 k3 k4 f0 f1 f2 f3 f4 hbad HENC
                rintro e W8 hE
                have HD8 := hide (HD.out.next hE.below)
                have hbad : W8.cell? ⟨w.heap.size + 1, 1, none⟩ = some (.bool true) := by rw [cell_row HD8.out.r]; rfl
                obtain ⟨v8, c8, rfl⟩ := enc_val hE
                clear hE HD
                obtain ⟨l0, l1, l2, l3, l4, i0, i1, i2, i3, i4⟩ := HD8.out.y.cells
                go_wp2
                refine bodyPost_ret (v := .tuple #[.agg #[.bool false, .slice none 0 0, .slice none 0 0, .slice none 0 0, .int .i64 0], .bool false]) (results_ct Try.results20 _ _ w.heap.size 43 #[.bool false, .slice none 0 0, .slice none 0 0, .slice none 0 0, .int .i64 0] (0, 0) _ rfl (HD8.out.y.setAll _ _ _ _ _).heap Try.underlying43 rfl Try.size43) rfl ?_
                exact RcEnd.no HNO.out (below_setAll HD8.out.below w.heap.size _ _ _ _ _ (Nat.le_refl _) HD8.out.below.size)
          | false =>
            have HP : Hid (pl true (start true R7) j = some s) := by
              rcases HLI.out.1 with ⟨_, e⟩ | ⟨e, _⟩
              · exact e
              · cases e
            have hrb : wr.cell? ⟨w.heap.size + 1, 1, none⟩ = some (.bool false) := by rw [cell_row HD.out.r]; rfl
            by_cases hjc : j < cc
            · go_upto_region 12 with fail
              clear hrb
              have hnk : s.keys.length ≤ 65536 := by have := HF.out.nk; omega
              have hnv : s.vals.length ≤ 65536 := by have := HF.out.nv; omega
              have hni : s.kids.length ≤ 65537 := by have := HF.out.ni; omega
              go_cut [] from 50 to 90 (fun wx => ∃ (T R1 : List UInt8) (b1 : Bool) (u : Value) (ra1 : Option Addr) (rc1 : Nat), Hid (XOut s.rest false T R1 b1) ∧ Hid (RSr w wx true (nx : Int) u pv pi ⟨s.keys ++ [T], s.vals, s.kids, R1⟩ b1 ra1 rc1))
              case first =>
                as_aux_lemma =>
                  refine wp_region_held_drew (S := fun w' => Below w.heap.size w w') (by kernel_rfl) (RSr.next (W' := wr.drew) HD.out (below_drewN _ _ 1)).below (fun st0 => ?_)
                  refine take_to 0 62 (.pointer (some ⟨w.heap.size + 1 + 1, 1, none⟩)) rfl (by kernel_rfl) (by kernel_rfl) (by kernel_rfl) (fun _ _ _ h => h) rfl (by rfl) (fun w hw => by rfl) st0 ?_
                  simp only [Act.put, List.setIfInBounds_toArray, List.set_cons_zero, List.set_cons_succ]
                  refine take_to 2 64 (.pointer (some ⟨w.heap.size + 1, 0, none⟩)) rfl (by kernel_rfl) (by kernel_rfl) (by kernel_rfl) (fun _ _ _ h => h) rfl (by rfl) (fun w hw => by rfl) st0 ?_
                  simp only [Act.put, List.setIfInBounds_toArray, List.set_cons_zero, List.set_cons_succ]
                  refine take_to 3 65 (.pointer (some ⟨w.heap.size + 1, 0, none⟩)) rfl (by kernel_rfl) (by kernel_rfl) (by kernel_rfl) (fun _ _ _ h => h) rfl (by rfl) (fun w hw => by rfl) st0 ?_
                  simp only [Act.put, List.setIfInBounds_toArray, List.set_cons_zero, List.set_cons_succ]
                  have HU0 := hide (HD.out.next (W' := wr.drew) (below_drewN _ _ 1))
                  clear st0
                  generalize wr.drew = U0 at *
                  have HN : Hid (Calls Try.prog 45 #[.pointer (some ⟨w.heap.size + 1, 0, none⟩), .int .i64 2] U0 (RNumEnd U0 (w.heap.size + 1) ra rc ((s) : PS).rest false 2)) := rnum_any HU0.out.rd 2 (by omega)
                  refine wpAnyH_all (rs := [1, 4]) (by kernel_rfl) (by simp) ?_
                  intro n hn
                  rcases (by simpa using hn : n = 1 ∨ n = 4) with rfl | rfl
                  · refine op_to 63 (pk) _ rfl rfl (by rfl) (op_load _ _ 27 (.tmp 62) rfl (.pointer (some ⟨_, _, none⟩)) _ rfl (run_loadAny _ _ _ 27 _ Try.isAgg27 HU0.out.m.cells.k1)) ⟨HU0.out.below, ?_⟩
                    simp only [Act.put, List.setIfInBounds_toArray, List.set_cons_zero, List.set_cons_succ]
                    refine step_call2_to 4 66 45 rfl (by kernel_rfl) rfl (by rfl) (.tmp 65) (.const (.int .i64 2)) _ rfl _ _ rfl rfl Try.enters45 HN.out ?_
                    rintro e U1 hE
                    obtain ⟨n1, R1, b1, ra1, rc1, rfl, hs1, hn1⟩ := HU0.out.num hE
                    have HU1 := hide hs1
                    have HN1 := hide hn1
                    clear hE hs1 hn1
                    refine ⟨_, rfl, HU1.out.below, ?_⟩
                    simp only [Act.put, List.setIfInBounds_toArray, List.set_cons_zero, List.set_cons_succ]
                    have HT : Hid (Calls Try.prog 46 #[.pointer (some ⟨w.heap.size + 1, 0, none⟩), .int .i64 (n1 : Int)] U1 (TakeEnd U1 (w.heap.size + 1) ra1 rc1 R1 b1 n1)) := take_any HU1.out.rd n1 (nout_lt HN1.out)
                    refine step_call2_to 5 67 46 rfl (by kernel_rfl) rfl (by rfl) (.tmp 64) (.tmp 66) _ rfl _ _ rfl rfl Try.enters46 HT.out ?_
                    rintro e U2 hE
                    obtain ⟨a2, c2, T, R2, b2, ra2, rc2, rfl, hsl2, hs2, ht2⟩ := HU1.out.tak hE
                    have HU2 := hide hs2
                    have HX := hide (xout HN1.out ht2)
                    have HSL := hide hsl2
                    clear hE hs2 ht2 hsl2
                    refine ⟨_, rfl, HU2.out.below, ?_⟩
                    simp only [Act.put, List.setIfInBounds_toArray, List.set_cons_zero, List.set_cons_succ]
                    refine take_to 6 68 (.string (strOf T)) rfl (by kernel_rfl) (by kernel_rfl) (by kernel_rfl) (fun _ _ _ h => h) rfl (by rfl) (fun w' hw => op_conv _ _ 28 9 (.tmp 67) rfl _ _ rfl (run_str (HSL.out.belowW hw))) HU2.out.below ?_
                    simp only [Act.put, List.setIfInBounds_toArray, List.set_cons_zero, List.set_cons_succ]
                    have HU3 := hide (HU2.out.next (W' := U2.alloc (.cells #[.string (strOf T)] 9)) ((Below.refl _ _).alloc (Nat.le_refl _) _))
                    refine step_to 7 69 (.slice (some ⟨U2.heap.size, 0, none⟩) 1 1) (U2.alloc (.cells #[.string (strOf T)] 9)) rfl (by kernel_rfl) rfl (by rfl) (op_buildStr _ _ (.tmp 68) rfl _ rfl _) HU3.out.below ?_
                    simp only [Act.put, List.setIfInBounds_toArray, List.set_cons_zero, List.set_cons_succ]
                    refine step_append_atS 8 70 rfl (by kernel_rfl) rfl rfl (.tmp 63) (.tmp 69) rfl (w.heap.size + 1 + 1 + 1) (pk) s.keys.length (strCells s.keys) (.slice (some ⟨U2.heap.size, 0, none⟩) 1 1) 1 [.string (strOf T)] rfl rfl HU3.out.ok (row_str U2 T) rfl (fun q hq => by simp at hq; subst hq; rfl) (by omega) (by omega) HU3.out.sz ?_
                    intro u3 U3 ho3 hg3 hw3
                    obtain ⟨wa, wd, ew⟩ := owns_len ho3
                    subst ew
                    have HU4 := hide (HU3.out.appK (T := T) ho3 hg3 hw3)
                    obtain ⟨hb3, hx3⟩ := HU3.out.gr HU3.out.ok (by decide) hg3
                    refine ⟨hb3, ?_⟩
                    simp only [Act.put, List.setIfInBounds_toArray, List.set_cons_zero, List.set_cons_succ]
                    refine step_to 9 71 (.pointer (some ⟨w.heap.size + 1 + 1, 1, none⟩)) U3 rfl (by kernel_rfl) rfl (by rfl) (by rfl) hb3 ?_
                    simp only [Act.put, List.setIfInBounds_toArray, List.set_cons_zero, List.set_cons_succ]
                    refine step_store_to 10 (U3.setCell ⟨w.heap.size + 1 + 1, 1, none⟩ (.slice wa (s.keys.length + 1) wd)) rfl (by kernel_rfl) rfl (by rfl) 27 (.tmp 71) (.tmp 70) rfl (.pointer (some ⟨w.heap.size + 1 + 1, 1, none⟩)) (.slice wa (s.keys.length + 1) wd) rfl rfl (storeSl _ _ _ _ _ _ _ _ _ rfl (.inl rfl) hx3.cells.k1 hx3.cells.f1) HU4.out.below ?_
                    refine wpAnyH_done (by kernel_rfl) ?_ _
                    go_wp2_with fail
                    go_meet
                    exact ⟨T, R2, b2, _, ra2, rc2, HX.out, HU4.out⟩
                  · refine op_call2r 66 45 rfl rfl (by rfl) (.tmp 65) (.const (.int .i64 2)) _ rfl _ _ rfl rfl Try.enters45 HN.out ?_
                    rintro e U1 hE
                    obtain ⟨n1, R1, b1, ra1, rc1, rfl, hs1, hn1⟩ := HU0.out.num hE
                    have HU1 := hide hs1
                    have HN1 := hide hn1
                    clear hE hs1 hn1
                    refine ⟨_, rfl, HU1.out.below, ?_⟩
                    simp only [Act.put, List.setIfInBounds_toArray, List.set_cons_zero, List.set_cons_succ]
                    refine wpAnyH_all (rs := [1, 5]) (by kernel_rfl) (by simp) ?_
                    intro n hn
                    rcases (by simpa using hn : n = 1 ∨ n = 5) with rfl | rfl
                    · refine op_to 63 (pk) _ rfl rfl (by rfl) (op_load _ _ 27 (.tmp 62) rfl (.pointer (some ⟨_, _, none⟩)) _ rfl (run_loadAny _ _ _ 27 _ Try.isAgg27 HU1.out.m.cells.k1)) ⟨HU1.out.below, ?_⟩
                      simp only [Act.put, List.setIfInBounds_toArray, List.set_cons_zero, List.set_cons_succ]
                      have HT : Hid (Calls Try.prog 46 #[.pointer (some ⟨w.heap.size + 1, 0, none⟩), .int .i64 (n1 : Int)] U1 (TakeEnd U1 (w.heap.size + 1) ra1 rc1 R1 b1 n1)) := take_any HU1.out.rd n1 (nout_lt HN1.out)
                      refine step_call2_to 5 67 46 rfl (by kernel_rfl) rfl (by rfl) (.tmp 64) (.tmp 66) _ rfl _ _ rfl rfl Try.enters46 HT.out ?_
                      rintro e U2 hE
                      obtain ⟨a2, c2, T, R2, b2, ra2, rc2, rfl, hsl2, hs2, ht2⟩ := HU1.out.tak hE
                      have HU2 := hide hs2
                      have HX := hide (xout HN1.out ht2)
                      have HSL := hide hsl2
                      clear hE hs2 ht2 hsl2
                      refine ⟨_, rfl, HU2.out.below, ?_⟩
                      simp only [Act.put, List.setIfInBounds_toArray, List.set_cons_zero, List.set_cons_succ]
                      refine take_to 6 68 (.string (strOf T)) rfl (by kernel_rfl) (by kernel_rfl) (by kernel_rfl) (fun _ _ _ h => h) rfl (by rfl) (fun w' hw => op_conv _ _ 28 9 (.tmp 67) rfl _ _ rfl (run_str (HSL.out.belowW hw))) HU2.out.below ?_
                      simp only [Act.put, List.setIfInBounds_toArray, List.set_cons_zero, List.set_cons_succ]
                      have HU3 := hide (HU2.out.next (W' := U2.alloc (.cells #[.string (strOf T)] 9)) ((Below.refl _ _).alloc (Nat.le_refl _) _))
                      refine step_to 7 69 (.slice (some ⟨U2.heap.size, 0, none⟩) 1 1) (U2.alloc (.cells #[.string (strOf T)] 9)) rfl (by kernel_rfl) rfl (by rfl) (op_buildStr _ _ (.tmp 68) rfl _ rfl _) HU3.out.below ?_
                      simp only [Act.put, List.setIfInBounds_toArray, List.set_cons_zero, List.set_cons_succ]
                      refine step_append_atS 8 70 rfl (by kernel_rfl) rfl rfl (.tmp 63) (.tmp 69) rfl (w.heap.size + 1 + 1 + 1) (pk) s.keys.length (strCells s.keys) (.slice (some ⟨U2.heap.size, 0, none⟩) 1 1) 1 [.string (strOf T)] rfl rfl HU3.out.ok (row_str U2 T) rfl (fun q hq => by simp at hq; subst hq; rfl) (by omega) (by omega) HU3.out.sz ?_
                      intro u3 U3 ho3 hg3 hw3
                      obtain ⟨wa, wd, ew⟩ := owns_len ho3
                      subst ew
                      have HU4 := hide (HU3.out.appK (T := T) ho3 hg3 hw3)
                      obtain ⟨hb3, hx3⟩ := HU3.out.gr HU3.out.ok (by decide) hg3
                      refine ⟨hb3, ?_⟩
                      simp only [Act.put, List.setIfInBounds_toArray, List.set_cons_zero, List.set_cons_succ]
                      refine step_to 9 71 (.pointer (some ⟨w.heap.size + 1 + 1, 1, none⟩)) U3 rfl (by kernel_rfl) rfl (by rfl) (by rfl) hb3 ?_
                      simp only [Act.put, List.setIfInBounds_toArray, List.set_cons_zero, List.set_cons_succ]
                      refine step_store_to 10 (U3.setCell ⟨w.heap.size + 1 + 1, 1, none⟩ (.slice wa (s.keys.length + 1) wd)) rfl (by kernel_rfl) rfl (by rfl) 27 (.tmp 71) (.tmp 70) rfl (.pointer (some ⟨w.heap.size + 1 + 1, 1, none⟩)) (.slice wa (s.keys.length + 1) wd) rfl rfl (storeSl _ _ _ _ _ _ _ _ _ rfl (.inl rfl) hx3.cells.k1 hx3.cells.f1) HU4.out.below ?_
                      refine wpAnyH_done (by kernel_rfl) ?_ _
                      go_wp2_with fail
                      go_meet
                      exact ⟨T, R2, b2, _, ra2, rc2, HX.out, HU4.out⟩
                    · have HT : Hid (Calls Try.prog 46 #[.pointer (some ⟨w.heap.size + 1, 0, none⟩), .int .i64 (n1 : Int)] U1 (TakeEnd U1 (w.heap.size + 1) ra1 rc1 R1 b1 n1)) := take_any HU1.out.rd n1 (nout_lt HN1.out)
                      refine op_call2r 67 46 rfl rfl (by rfl) (.tmp 64) (.tmp 66) _ rfl _ _ rfl rfl Try.enters46 HT.out ?_
                      rintro e U2 hE
                      obtain ⟨a2, c2, T, R2, b2, ra2, rc2, rfl, hsl2, hs2, ht2⟩ := HU1.out.tak hE
                      have HU2 := hide hs2
                      have HX := hide (xout HN1.out ht2)
                      have HSL := hide hsl2
                      clear hE hs2 ht2 hsl2
                      refine ⟨_, rfl, HU2.out.below, ?_⟩
                      simp only [Act.put, List.setIfInBounds_toArray, List.set_cons_zero, List.set_cons_succ]
                      refine take_to 6 68 (.string (strOf T)) rfl (by kernel_rfl) (by kernel_rfl) (by kernel_rfl) (fun _ _ _ h => h) rfl (by rfl) (fun w' hw => op_conv _ _ 28 9 (.tmp 67) rfl _ _ rfl (run_str (HSL.out.belowW hw))) HU2.out.below ?_
                      simp only [Act.put, List.setIfInBounds_toArray, List.set_cons_zero, List.set_cons_succ]
                      have HU3 := hide (HU2.out.next (W' := U2.alloc (.cells #[.string (strOf T)] 9)) ((Below.refl _ _).alloc (Nat.le_refl _) _))
                      refine wpAnyH_all (rs := [1, 7]) (by kernel_rfl) (by simp) ?_
                      intro n hn
                      rcases (by simpa using hn : n = 1 ∨ n = 7) with rfl | rfl
                      · refine op_to 63 (pk) _ rfl rfl (by rfl) (op_load _ _ 27 (.tmp 62) rfl (.pointer (some ⟨_, _, none⟩)) _ rfl (run_loadAny _ _ _ 27 _ Try.isAgg27 HU2.out.m.cells.k1)) ⟨HU2.out.below, ?_⟩
                        simp only [Act.put, List.setIfInBounds_toArray, List.set_cons_zero, List.set_cons_succ]
                        refine step_to 7 69 (.slice (some ⟨U2.heap.size, 0, none⟩) 1 1) (U2.alloc (.cells #[.string (strOf T)] 9)) rfl (by kernel_rfl) rfl (by rfl) (op_buildStr _ _ (.tmp 68) rfl _ rfl _) HU3.out.below ?_
                        simp only [Act.put, List.setIfInBounds_toArray, List.set_cons_zero, List.set_cons_succ]
                        refine step_append_atS 8 70 rfl (by kernel_rfl) rfl rfl (.tmp 63) (.tmp 69) rfl (w.heap.size + 1 + 1 + 1) (pk) s.keys.length (strCells s.keys) (.slice (some ⟨U2.heap.size, 0, none⟩) 1 1) 1 [.string (strOf T)] rfl rfl HU3.out.ok (row_str U2 T) rfl (fun q hq => by simp at hq; subst hq; rfl) (by omega) (by omega) HU3.out.sz ?_
                        intro u3 U3 ho3 hg3 hw3
                        obtain ⟨wa, wd, ew⟩ := owns_len ho3
                        subst ew
                        have HU4 := hide (HU3.out.appK (T := T) ho3 hg3 hw3)
                        obtain ⟨hb3, hx3⟩ := HU3.out.gr HU3.out.ok (by decide) hg3
                        refine ⟨hb3, ?_⟩
                        simp only [Act.put, List.setIfInBounds_toArray, List.set_cons_zero, List.set_cons_succ]
                        refine step_to 9 71 (.pointer (some ⟨w.heap.size + 1 + 1, 1, none⟩)) U3 rfl (by kernel_rfl) rfl (by rfl) (by rfl) hb3 ?_
                        simp only [Act.put, List.setIfInBounds_toArray, List.set_cons_zero, List.set_cons_succ]
                        refine step_store_to 10 (U3.setCell ⟨w.heap.size + 1 + 1, 1, none⟩ (.slice wa (s.keys.length + 1) wd)) rfl (by kernel_rfl) rfl (by rfl) 27 (.tmp 71) (.tmp 70) rfl (.pointer (some ⟨w.heap.size + 1 + 1, 1, none⟩)) (.slice wa (s.keys.length + 1) wd) rfl rfl (storeSl _ _ _ _ _ _ _ _ _ rfl (.inl rfl) hx3.cells.k1 hx3.cells.f1) HU4.out.below ?_
                        refine wpAnyH_done (by kernel_rfl) ?_ _
                        go_wp2_with fail
                        go_meet
                        exact ⟨T, R2, b2, _, ra2, rc2, HX.out, HU4.out⟩
                      · refine op_to 69 (.slice (some ⟨U2.heap.size, 0, none⟩) 1 1) (U2.alloc (.cells #[.string (strOf T)] 9)) rfl rfl (by rfl) (op_buildStr _ _ (.tmp 68) rfl _ rfl _) ⟨HU3.out.below, ?_⟩
                        simp only [Act.put, List.setIfInBounds_toArray, List.set_cons_zero, List.set_cons_succ]
                        refine step_to 1 63 (pk) _ rfl (by kernel_rfl) rfl (by rfl) (op_load _ _ 27 (.tmp 62) rfl (.pointer (some ⟨_, _, none⟩)) _ rfl (run_loadAny _ _ _ 27 _ Try.isAgg27 HU3.out.m.cells.k1)) HU3.out.below ?_
                        simp only [Act.put, List.setIfInBounds_toArray, List.set_cons_zero, List.set_cons_succ]
                        refine step_append_atS 8 70 rfl (by kernel_rfl) rfl rfl (.tmp 63) (.tmp 69) rfl (w.heap.size + 1 + 1 + 1) (pk) s.keys.length (strCells s.keys) (.slice (some ⟨U2.heap.size, 0, none⟩) 1 1) 1 [.string (strOf T)] rfl rfl HU3.out.ok (row_str U2 T) rfl (fun q hq => by simp at hq; subst hq; rfl) (by omega) (by omega) HU3.out.sz ?_
                        intro u3 U3 ho3 hg3 hw3
                        obtain ⟨wa, wd, ew⟩ := owns_len ho3
                        subst ew
                        have HU4 := hide (HU3.out.appK (T := T) ho3 hg3 hw3)
                        obtain ⟨hb3, hx3⟩ := HU3.out.gr HU3.out.ok (by decide) hg3
                        refine ⟨hb3, ?_⟩
                        simp only [Act.put, List.setIfInBounds_toArray, List.set_cons_zero, List.set_cons_succ]
                        refine step_to 9 71 (.pointer (some ⟨w.heap.size + 1 + 1, 1, none⟩)) U3 rfl (by kernel_rfl) rfl (by rfl) (by rfl) hb3 ?_
                        simp only [Act.put, List.setIfInBounds_toArray, List.set_cons_zero, List.set_cons_succ]
                        refine step_store_to 10 (U3.setCell ⟨w.heap.size + 1 + 1, 1, none⟩ (.slice wa (s.keys.length + 1) wd)) rfl (by kernel_rfl) rfl (by rfl) 27 (.tmp 71) (.tmp 70) rfl (.pointer (some ⟨w.heap.size + 1 + 1, 1, none⟩)) (.slice wa (s.keys.length + 1) wd) rfl rfl (storeSl _ _ _ _ _ _ _ _ _ rfl (.inl rfl) hx3.cells.k1 hx3.cells.f1) HU4.out.below ?_
                        refine wpAnyH_done (by kernel_rfl) ?_ _
                        go_wp2_with fail
                        go_meet
                        exact ⟨T, R2, b2, _, ra2, rc2, HX.out, HU4.out⟩
              case rest =>
                obtain ⟨T1, R1, b1, u1, ra', rc', HX1, HD1⟩ := hcut
                generalize wc = Wm at *
                obtain ⟨k0, k1, k2, k3, k4, f0, f1, f2, f3, f4⟩ := HD1.out.m.cells
                go_upto_region 14 with fail
                clear k0 k1 k2 k3 k4 f0 f1 f2 f3 f4 HD
                as_aux_lemma =>
                  clear ra rc
                  generalize ra' = ra, rc' = rc at *
                  generalize R1 = R0 at *
                  generalize b1 = b0 at *
                  refine wp_region_held_drew (S := fun w' => Below w.heap.size w w') (by kernel_rfl) (RSr.next (W' := Wm.drew) HD1.out (below_drewN _ _ 1)).below (fun st0 => ?_)
                  refine take_to 0 74 (.pointer (some ⟨w.heap.size + 1 + 1, 2, none⟩)) rfl (by kernel_rfl) (by kernel_rfl) (by kernel_rfl) (fun _ _ _ h => h) rfl (by rfl) (fun w hw => by rfl) st0 ?_
                  simp only [Act.put, List.setIfInBounds_toArray, List.set_cons_zero, List.set_cons_succ]
                  refine take_to 2 76 (.pointer (some ⟨w.heap.size + 1, 0, none⟩)) rfl (by kernel_rfl) (by kernel_rfl) (by kernel_rfl) (fun _ _ _ h => h) rfl (by rfl) (fun w hw => by rfl) st0 ?_
                  simp only [Act.put, List.setIfInBounds_toArray, List.set_cons_zero, List.set_cons_succ]
                  refine take_to 3 77 (.pointer (some ⟨w.heap.size + 1, 0, none⟩)) rfl (by kernel_rfl) (by kernel_rfl) (by kernel_rfl) (fun _ _ _ h => h) rfl (by rfl) (fun w hw => by rfl) st0 ?_
                  simp only [Act.put, List.setIfInBounds_toArray, List.set_cons_zero, List.set_cons_succ]
                  have HU0 := hide (HD1.out.next (W' := Wm.drew) (below_drewN _ _ 1))
                  clear st0
                  generalize Wm.drew = U0 at *
                  have HN : Hid (Calls Try.prog 45 #[.pointer (some ⟨w.heap.size + 1, 0, none⟩), .int .i64 2] U0 (RNumEnd U0 (w.heap.size + 1) ra rc ((⟨s.keys ++ [T1], s.vals, s.kids, R0⟩) : PS).rest b0 2)) := rnum_any HU0.out.rd 2 (by omega)
                  refine wpAnyH_all (rs := [1, 4]) (by kernel_rfl) (by simp) ?_
                  intro n hn
                  rcases (by simpa using hn : n = 1 ∨ n = 4) with rfl | rfl
                  · refine op_to 75 (pv) _ rfl rfl (by rfl) (op_load _ _ 27 (.tmp 74) rfl (.pointer (some ⟨_, _, none⟩)) _ rfl (run_loadAny _ _ _ 27 _ Try.isAgg27 HU0.out.m.cells.k2)) ⟨HU0.out.below, ?_⟩
                    simp only [Act.put, List.setIfInBounds_toArray, List.set_cons_zero, List.set_cons_succ]
                    refine step_call2_to 4 78 45 rfl (by kernel_rfl) rfl (by rfl) (.tmp 77) (.const (.int .i64 2)) _ rfl _ _ rfl rfl Try.enters45 HN.out ?_
                    rintro e U1 hE
                    obtain ⟨n1, R1, b1, ra1, rc1, rfl, hs1, hn1⟩ := HU0.out.num hE
                    have HU1 := hide hs1
                    have HN1 := hide hn1
                    clear hE hs1 hn1
                    refine ⟨_, rfl, HU1.out.below, ?_⟩
                    simp only [Act.put, List.setIfInBounds_toArray, List.set_cons_zero, List.set_cons_succ]
                    have HT : Hid (Calls Try.prog 46 #[.pointer (some ⟨w.heap.size + 1, 0, none⟩), .int .i64 (n1 : Int)] U1 (TakeEnd U1 (w.heap.size + 1) ra1 rc1 R1 b1 n1)) := take_any HU1.out.rd n1 (nout_lt HN1.out)
                    refine step_call2_to 5 79 46 rfl (by kernel_rfl) rfl (by rfl) (.tmp 76) (.tmp 78) _ rfl _ _ rfl rfl Try.enters46 HT.out ?_
                    rintro e U2 hE
                    obtain ⟨a2, c2, T, R2, b2, ra2, rc2, rfl, hsl2, hs2, ht2⟩ := HU1.out.tak hE
                    have HU2 := hide hs2
                    have HX := hide (xout HN1.out ht2)
                    have HSL := hide hsl2
                    clear hE hs2 ht2 hsl2
                    refine ⟨_, rfl, HU2.out.below, ?_⟩
                    simp only [Act.put, List.setIfInBounds_toArray, List.set_cons_zero, List.set_cons_succ]
                    refine take_to 6 80 (.string (strOf T)) rfl (by kernel_rfl) (by kernel_rfl) (by kernel_rfl) (fun _ _ _ h => h) rfl (by rfl) (fun w' hw => op_conv _ _ 28 9 (.tmp 79) rfl _ _ rfl (run_str (HSL.out.belowW hw))) HU2.out.below ?_
                    simp only [Act.put, List.setIfInBounds_toArray, List.set_cons_zero, List.set_cons_succ]
                    have HU3 := hide (HU2.out.next (W' := U2.alloc (.cells #[.string (strOf T)] 9)) ((Below.refl _ _).alloc (Nat.le_refl _) _))
                    refine step_to 7 81 (.slice (some ⟨U2.heap.size, 0, none⟩) 1 1) (U2.alloc (.cells #[.string (strOf T)] 9)) rfl (by kernel_rfl) rfl (by rfl) (op_buildStr _ _ (.tmp 80) rfl _ rfl _) HU3.out.below ?_
                    simp only [Act.put, List.setIfInBounds_toArray, List.set_cons_zero, List.set_cons_succ]
                    refine step_append_atS 8 82 rfl (by kernel_rfl) rfl rfl (.tmp 75) (.tmp 81) rfl (w.heap.size + 1 + 1 + 1) (pv) s.vals.length (strCells s.vals) (.slice (some ⟨U2.heap.size, 0, none⟩) 1 1) 1 [.string (strOf T)] rfl rfl HU3.out.ov (row_str U2 T) rfl (fun q hq => by simp at hq; subst hq; rfl) (by omega) (by omega) HU3.out.sz ?_
                    intro u3 U3 ho3 hg3 hw3
                    obtain ⟨wa, wd, ew⟩ := owns_len ho3
                    subst ew
                    have HU4 := hide (HU3.out.appV (T := T) ho3 hg3 hw3)
                    obtain ⟨hb3, hx3⟩ := HU3.out.gr HU3.out.ov (by decide) hg3
                    refine ⟨hb3, ?_⟩
                    simp only [Act.put, List.setIfInBounds_toArray, List.set_cons_zero, List.set_cons_succ]
                    refine step_to 9 83 (.pointer (some ⟨w.heap.size + 1 + 1, 2, none⟩)) U3 rfl (by kernel_rfl) rfl (by rfl) (by rfl) hb3 ?_
                    simp only [Act.put, List.setIfInBounds_toArray, List.set_cons_zero, List.set_cons_succ]
                    refine step_store_to 10 (U3.setCell ⟨w.heap.size + 1 + 1, 2, none⟩ (.slice wa (s.vals.length + 1) wd)) rfl (by kernel_rfl) rfl (by rfl) 27 (.tmp 83) (.tmp 82) rfl (.pointer (some ⟨w.heap.size + 1 + 1, 2, none⟩)) (.slice wa (s.vals.length + 1) wd) rfl rfl (storeSl _ _ _ _ _ _ _ _ _ rfl (.inl rfl) hx3.cells.k2 hx3.cells.f2) HU4.out.below ?_
                    refine wpAnyH_done (by kernel_rfl) ?_ _
                    have HLN := hide (linvV HP.out hjc HF.out HX1.out HX.out)
                    clear hx3 hb3 ho3 hg3
                    go_wp2
                    go_roundw
                    case rel => exact ⟨j + 1, _, _, _, _, _, _, _, by omega, by go_num, HLN.out, HU4.out⟩
                    case measure => simp [intOf]; omega
                  · refine op_call2r 78 45 rfl rfl (by rfl) (.tmp 77) (.const (.int .i64 2)) _ rfl _ _ rfl rfl Try.enters45 HN.out ?_
                    rintro e U1 hE
                    obtain ⟨n1, R1, b1, ra1, rc1, rfl, hs1, hn1⟩ := HU0.out.num hE
                    have HU1 := hide hs1
                    have HN1 := hide hn1
                    clear hE hs1 hn1
                    refine ⟨_, rfl, HU1.out.below, ?_⟩
                    simp only [Act.put, List.setIfInBounds_toArray, List.set_cons_zero, List.set_cons_succ]
                    refine wpAnyH_all (rs := [1, 5]) (by kernel_rfl) (by simp) ?_
                    intro n hn
                    rcases (by simpa using hn : n = 1 ∨ n = 5) with rfl | rfl
                    · refine op_to 75 (pv) _ rfl rfl (by rfl) (op_load _ _ 27 (.tmp 74) rfl (.pointer (some ⟨_, _, none⟩)) _ rfl (run_loadAny _ _ _ 27 _ Try.isAgg27 HU1.out.m.cells.k2)) ⟨HU1.out.below, ?_⟩
                      simp only [Act.put, List.setIfInBounds_toArray, List.set_cons_zero, List.set_cons_succ]
                      have HT : Hid (Calls Try.prog 46 #[.pointer (some ⟨w.heap.size + 1, 0, none⟩), .int .i64 (n1 : Int)] U1 (TakeEnd U1 (w.heap.size + 1) ra1 rc1 R1 b1 n1)) := take_any HU1.out.rd n1 (nout_lt HN1.out)
                      refine step_call2_to 5 79 46 rfl (by kernel_rfl) rfl (by rfl) (.tmp 76) (.tmp 78) _ rfl _ _ rfl rfl Try.enters46 HT.out ?_
                      rintro e U2 hE
                      obtain ⟨a2, c2, T, R2, b2, ra2, rc2, rfl, hsl2, hs2, ht2⟩ := HU1.out.tak hE
                      have HU2 := hide hs2
                      have HX := hide (xout HN1.out ht2)
                      have HSL := hide hsl2
                      clear hE hs2 ht2 hsl2
                      refine ⟨_, rfl, HU2.out.below, ?_⟩
                      simp only [Act.put, List.setIfInBounds_toArray, List.set_cons_zero, List.set_cons_succ]
                      refine take_to 6 80 (.string (strOf T)) rfl (by kernel_rfl) (by kernel_rfl) (by kernel_rfl) (fun _ _ _ h => h) rfl (by rfl) (fun w' hw => op_conv _ _ 28 9 (.tmp 79) rfl _ _ rfl (run_str (HSL.out.belowW hw))) HU2.out.below ?_
                      simp only [Act.put, List.setIfInBounds_toArray, List.set_cons_zero, List.set_cons_succ]
                      have HU3 := hide (HU2.out.next (W' := U2.alloc (.cells #[.string (strOf T)] 9)) ((Below.refl _ _).alloc (Nat.le_refl _) _))
                      refine step_to 7 81 (.slice (some ⟨U2.heap.size, 0, none⟩) 1 1) (U2.alloc (.cells #[.string (strOf T)] 9)) rfl (by kernel_rfl) rfl (by rfl) (op_buildStr _ _ (.tmp 80) rfl _ rfl _) HU3.out.below ?_
                      simp only [Act.put, List.setIfInBounds_toArray, List.set_cons_zero, List.set_cons_succ]
                      refine step_append_atS 8 82 rfl (by kernel_rfl) rfl rfl (.tmp 75) (.tmp 81) rfl (w.heap.size + 1 + 1 + 1) (pv) s.vals.length (strCells s.vals) (.slice (some ⟨U2.heap.size, 0, none⟩) 1 1) 1 [.string (strOf T)] rfl rfl HU3.out.ov (row_str U2 T) rfl (fun q hq => by simp at hq; subst hq; rfl) (by omega) (by omega) HU3.out.sz ?_
                      intro u3 U3 ho3 hg3 hw3
                      obtain ⟨wa, wd, ew⟩ := owns_len ho3
                      subst ew
                      have HU4 := hide (HU3.out.appV (T := T) ho3 hg3 hw3)
                      obtain ⟨hb3, hx3⟩ := HU3.out.gr HU3.out.ov (by decide) hg3
                      refine ⟨hb3, ?_⟩
                      simp only [Act.put, List.setIfInBounds_toArray, List.set_cons_zero, List.set_cons_succ]
                      refine step_to 9 83 (.pointer (some ⟨w.heap.size + 1 + 1, 2, none⟩)) U3 rfl (by kernel_rfl) rfl (by rfl) (by rfl) hb3 ?_
                      simp only [Act.put, List.setIfInBounds_toArray, List.set_cons_zero, List.set_cons_succ]
                      refine step_store_to 10 (U3.setCell ⟨w.heap.size + 1 + 1, 2, none⟩ (.slice wa (s.vals.length + 1) wd)) rfl (by kernel_rfl) rfl (by rfl) 27 (.tmp 83) (.tmp 82) rfl (.pointer (some ⟨w.heap.size + 1 + 1, 2, none⟩)) (.slice wa (s.vals.length + 1) wd) rfl rfl (storeSl _ _ _ _ _ _ _ _ _ rfl (.inl rfl) hx3.cells.k2 hx3.cells.f2) HU4.out.below ?_
                      refine wpAnyH_done (by kernel_rfl) ?_ _
                      have HLN := hide (linvV HP.out hjc HF.out HX1.out HX.out)
                      clear hx3 hb3 ho3 hg3
                      go_wp2
                      go_roundw
                      case rel => exact ⟨j + 1, _, _, _, _, _, _, _, by omega, by go_num, HLN.out, HU4.out⟩
                      case measure => simp [intOf]; omega
                    · have HT : Hid (Calls Try.prog 46 #[.pointer (some ⟨w.heap.size + 1, 0, none⟩), .int .i64 (n1 : Int)] U1 (TakeEnd U1 (w.heap.size + 1) ra1 rc1 R1 b1 n1)) := take_any HU1.out.rd n1 (nout_lt HN1.out)
                      refine op_call2r 79 46 rfl rfl (by rfl) (.tmp 76) (.tmp 78) _ rfl _ _ rfl rfl Try.enters46 HT.out ?_
                      rintro e U2 hE
                      obtain ⟨a2, c2, T, R2, b2, ra2, rc2, rfl, hsl2, hs2, ht2⟩ := HU1.out.tak hE
                      have HU2 := hide hs2
                      have HX := hide (xout HN1.out ht2)
                      have HSL := hide hsl2
                      clear hE hs2 ht2 hsl2
                      refine ⟨_, rfl, HU2.out.below, ?_⟩
                      simp only [Act.put, List.setIfInBounds_toArray, List.set_cons_zero, List.set_cons_succ]
                      refine take_to 6 80 (.string (strOf T)) rfl (by kernel_rfl) (by kernel_rfl) (by kernel_rfl) (fun _ _ _ h => h) rfl (by rfl) (fun w' hw => op_conv _ _ 28 9 (.tmp 79) rfl _ _ rfl (run_str (HSL.out.belowW hw))) HU2.out.below ?_
                      simp only [Act.put, List.setIfInBounds_toArray, List.set_cons_zero, List.set_cons_succ]
                      have HU3 := hide (HU2.out.next (W' := U2.alloc (.cells #[.string (strOf T)] 9)) ((Below.refl _ _).alloc (Nat.le_refl _) _))
                      refine wpAnyH_all (rs := [1, 7]) (by kernel_rfl) (by simp) ?_
                      intro n hn
                      rcases (by simpa using hn : n = 1 ∨ n = 7) with rfl | rfl
                      · refine op_to 75 (pv) _ rfl rfl (by rfl) (op_load _ _ 27 (.tmp 74) rfl (.pointer (some ⟨_, _, none⟩)) _ rfl (run_loadAny _ _ _ 27 _ Try.isAgg27 HU2.out.m.cells.k2)) ⟨HU2.out.below, ?_⟩
                        simp only [Act.put, List.setIfInBounds_toArray, List.set_cons_zero, List.set_cons_succ]
                        refine step_to 7 81 (.slice (some ⟨U2.heap.size, 0, none⟩) 1 1) (U2.alloc (.cells #[.string (strOf T)] 9)) rfl (by kernel_rfl) rfl (by rfl) (op_buildStr _ _ (.tmp 80) rfl _ rfl _) HU3.out.below ?_
                        simp only [Act.put, List.setIfInBounds_toArray, List.set_cons_zero, List.set_cons_succ]
                        refine step_append_atS 8 82 rfl (by kernel_rfl) rfl rfl (.tmp 75) (.tmp 81) rfl (w.heap.size + 1 + 1 + 1) (pv) s.vals.length (strCells s.vals) (.slice (some ⟨U2.heap.size, 0, none⟩) 1 1) 1 [.string (strOf T)] rfl rfl HU3.out.ov (row_str U2 T) rfl (fun q hq => by simp at hq; subst hq; rfl) (by omega) (by omega) HU3.out.sz ?_
                        intro u3 U3 ho3 hg3 hw3
                        obtain ⟨wa, wd, ew⟩ := owns_len ho3
                        subst ew
                        have HU4 := hide (HU3.out.appV (T := T) ho3 hg3 hw3)
                        obtain ⟨hb3, hx3⟩ := HU3.out.gr HU3.out.ov (by decide) hg3
                        refine ⟨hb3, ?_⟩
                        simp only [Act.put, List.setIfInBounds_toArray, List.set_cons_zero, List.set_cons_succ]
                        refine step_to 9 83 (.pointer (some ⟨w.heap.size + 1 + 1, 2, none⟩)) U3 rfl (by kernel_rfl) rfl (by rfl) (by rfl) hb3 ?_
                        simp only [Act.put, List.setIfInBounds_toArray, List.set_cons_zero, List.set_cons_succ]
                        refine step_store_to 10 (U3.setCell ⟨w.heap.size + 1 + 1, 2, none⟩ (.slice wa (s.vals.length + 1) wd)) rfl (by kernel_rfl) rfl (by rfl) 27 (.tmp 83) (.tmp 82) rfl (.pointer (some ⟨w.heap.size + 1 + 1, 2, none⟩)) (.slice wa (s.vals.length + 1) wd) rfl rfl (storeSl _ _ _ _ _ _ _ _ _ rfl (.inl rfl) hx3.cells.k2 hx3.cells.f2) HU4.out.below ?_
                        refine wpAnyH_done (by kernel_rfl) ?_ _
                        have HLN := hide (linvV HP.out hjc HF.out HX1.out HX.out)
                        clear hx3 hb3 ho3 hg3
                        go_wp2
                        go_roundw
                        case rel => exact ⟨j + 1, _, _, _, _, _, _, _, by omega, by go_num, HLN.out, HU4.out⟩
                        case measure => simp [intOf]; omega
                      · refine op_to 81 (.slice (some ⟨U2.heap.size, 0, none⟩) 1 1) (U2.alloc (.cells #[.string (strOf T)] 9)) rfl rfl (by rfl) (op_buildStr _ _ (.tmp 80) rfl _ rfl _) ⟨HU3.out.below, ?_⟩
                        simp only [Act.put, List.setIfInBounds_toArray, List.set_cons_zero, List.set_cons_succ]
                        refine step_to 1 75 (pv) _ rfl (by kernel_rfl) rfl (by rfl) (op_load _ _ 27 (.tmp 74) rfl (.pointer (some ⟨_, _, none⟩)) _ rfl (run_loadAny _ _ _ 27 _ Try.isAgg27 HU3.out.m.cells.k2)) HU3.out.below ?_
                        simp only [Act.put, List.setIfInBounds_toArray, List.set_cons_zero, List.set_cons_succ]
                        refine step_append_atS 8 82 rfl (by kernel_rfl) rfl rfl (.tmp 75) (.tmp 81) rfl (w.heap.size + 1 + 1 + 1) (pv) s.vals.length (strCells s.vals) (.slice (some ⟨U2.heap.size, 0, none⟩) 1 1) 1 [.string (strOf T)] rfl rfl HU3.out.ov (row_str U2 T) rfl (fun q hq => by simp at hq; subst hq; rfl) (by omega) (by omega) HU3.out.sz ?_
                        intro u3 U3 ho3 hg3 hw3
                        obtain ⟨wa, wd, ew⟩ := owns_len ho3
                        subst ew
                        have HU4 := hide (HU3.out.appV (T := T) ho3 hg3 hw3)
                        obtain ⟨hb3, hx3⟩ := HU3.out.gr HU3.out.ov (by decide) hg3
                        refine ⟨hb3, ?_⟩
                        simp only [Act.put, List.setIfInBounds_toArray, List.set_cons_zero, List.set_cons_succ]
                        refine step_to 9 83 (.pointer (some ⟨w.heap.size + 1 + 1, 2, none⟩)) U3 rfl (by kernel_rfl) rfl (by rfl) (by rfl) hb3 ?_
                        simp only [Act.put, List.setIfInBounds_toArray, List.set_cons_zero, List.set_cons_succ]
                        refine step_store_to 10 (U3.setCell ⟨w.heap.size + 1 + 1, 2, none⟩ (.slice wa (s.vals.length + 1) wd)) rfl (by kernel_rfl) rfl (by rfl) 27 (.tmp 83) (.tmp 82) rfl (.pointer (some ⟨w.heap.size + 1 + 1, 2, none⟩)) (.slice wa (s.vals.length + 1) wd) rfl rfl (storeSl _ _ _ _ _ _ _ _ _ rfl (.inl rfl) hx3.cells.k2 hx3.cells.f2) HU4.out.below ?_
                        refine wpAnyH_done (by kernel_rfl) ?_ _
                        have HLN := hide (linvV HP.out hjc HF.out HX1.out HX.out)
                        clear hx3 hb3 ho3 hg3
                        go_wp2
                        go_roundw
                        case rel => exact ⟨j + 1, _, _, _, _, _, _, _, by omega, by go_num, HLN.out, HU4.out⟩
                        case measure => simp [intOf]; omega
            · have hje : j = cc := by omega
              subst hje
              go_upto_region 16 with fail
              clear hrb
              as_aux_lemma =>
                have HENC : Hid (Calls Try.prog 18 #[.agg #[.bool true, pk, pv, pi, .int .i64 (nx : Int)]] wr (EncEnd wr (ndOf true nx s))) := rencode_any (N := ndOf true nx s) HD.out.rdat (HF.out.fits (by omega) true nx)
                have hbad : wr.cell? ⟨w.heap.size + 1, 1, none⟩ = some (.bool false) := by rw [cell_row HD.out.r]; rfl
                obtain ⟨k0, k1, k2, k3, k4, f0, f1, f2, f3, f4⟩ := HD.out.m.cells
                go_wp2_with fail
                refine HENC.out.mono ?_
                clear k0 k1 k2 k3 k4 f0 f1 f2 f3 f4 hbad HENC
                rintro e W8 hE
                have HD8 := hide (HD.out.next hE.below)
                have hbad : W8.cell? ⟨w.heap.size + 1, 1, none⟩ = some (.bool false) := by rw [cell_row HD8.out.r]; rfl
                have hpb := HPB.out s HP.out
                have hpi := page_is HL.out hpb
                rcases hE.out with ⟨hsd, rfl⟩ | ⟨hsd, hsz, rfl⟩ | ⟨hsd, hsz, v8, rfl, ho8⟩
                · have HNO : Hid (dcf bs = none) := by rw [Hid, HDC.out, HP.out]; exact fin_no (by rw [hsd]; rfl)
                  clear hE HD hpb hpi hsd
                  obtain ⟨l0, l1, l2, l3, l4, i0, i1, i2, i3, i4⟩ := HD8.out.y.cells
                  go_wp2
                  refine bodyPost_ret (v := .tuple #[.agg #[.bool false, .slice none 0 0, .slice none 0 0, .slice none 0 0, .int .i64 0], .bool false]) (results_ct Try.results20 _ _ w.heap.size 43 #[.bool false, .slice none 0 0, .slice none 0 0, .slice none 0 0, .int .i64 0] (0, 0) _ rfl (HD8.out.y.setAll _ _ _ _ _).heap Try.underlying43 rfl Try.size43) rfl ?_
                  exact RcEnd.no HNO.out (below_setAll HD8.out.below w.heap.size _ _ _ _ _ (Nat.le_refl _) HD8.out.below.size)
                · exfalso
                  have := length_body (sd_of hsd).mat
                  have := hpi.2
                  omega
                · obtain ⟨va, vc, ev⟩ := owns_len ho8
                  subst ev
                  have hcv1 : (convert 28 9 (.slice va (ndOf true nx s).page.length vc)).run Try.prog W8 = .ok (.string (strOf (ndOf true nx s).page)) W8 := run_str (Row.of_owns ho8)
                  have hcv2 : (convert 28 9 (.slice (some ⟨g0, o0, none⟩) 504 pc)).run Try.prog W8 = .ok (.string (strOf bs)) W8 := run_str (HSB.out.belowW HD8.out.below)
                  have hst1 := strOf_toList (ndOf true nx s).page
                  have hst2 := strOf_toList bs
                  cases hng : noughtsB s.rest with
                  | false =>
                    have HNO : Hid (dcf bs = none) := by rw [Hid, HDC.out, HP.out]; exact fin_no (by rw [hng, Bool.and_false])
                    have hne : ((strOf (ndOf true nx s).page).toList == (strOf bs).toList) = false := by
                      rw [hst1, hst2, beq_eq_false_iff_ne]
                      intro e
                      rw [hpi.1.1 e] at hng
                      cases hng
                    clear hE HD hpb hpi hsd hsz ho8 hng hst1 hst2
                    generalize strOf (ndOf true nx s).page = sp at *
                    generalize strOf bs = sb at *
                    generalize (ndOf true nx s).page.length = pn at *
                    obtain ⟨l0, l1, l2, l3, l4, i0, i1, i2, i3, i4⟩ := HD8.out.y.cells
                    go_wp2
                    refine bodyPost_ret (v := .tuple #[.agg #[.bool false, .slice none 0 0, .slice none 0 0, .slice none 0 0, .int .i64 0], .bool false]) (results_ct Try.results20 _ _ w.heap.size 43 #[.bool false, .slice none 0 0, .slice none 0 0, .slice none 0 0, .int .i64 0] (0, 0) _ rfl (HD8.out.y.setAll _ _ _ _ _).heap Try.underlying43 rfl Try.size43) rfl ?_
                    exact RcEnd.no HNO.out (below_setAll HD8.out.below w.heap.size _ _ _ _ _ (Nat.le_refl _) HD8.out.below.size)
                  | true =>
                    have HYE : Hid (dcf bs = some (ndOf true nx s)) := by rw [Hid, HDC.out, HP.out]; exact fin_yes (by rw [hng, hsd]; rfl)
                    have hne : ((strOf (ndOf true nx s).page).toList == (strOf bs).toList) = true := by
                      rw [hst1, hst2, beq_iff_eq]
                      exact hpi.1.2 hng
                    clear hE HD hpb hpi hsd hsz ho8 hng hst1 hst2
                    generalize strOf (ndOf true nx s).page = sp at *
                    generalize strOf bs = sb at *
                    generalize (ndOf true nx s).page.length = pn at *
                    obtain ⟨a1, c1, e1⟩ := owns_len HD8.out.ok
                    obtain ⟨a2, c2, e2⟩ := owns_len HD8.out.ov
                    obtain ⟨a3, c3, e3⟩ := owns_len HD8.out.oi
                    generalize s.keys.length = l1 at e1
                    generalize s.vals.length = l2 at e2
                    generalize s.kids.length = l3 at e3
                    subst e1 e2 e3
                    obtain ⟨k0, k1, k2, k3, k4, f0, f1, f2, f3, f4⟩ := HD8.out.m.cells
                    obtain ⟨l0, l1', l2', l3', l4, i0, i1, i2, i3, i4⟩ := HD8.out.y.cells
                    go_wp2
                    refine bodyPost_ret (v := .tuple #[.agg #[.bool true, .slice a1 l1 c1, .slice a2 l2 c2, .slice a3 l3 c3, .int .i64 (nx : Int)], .bool true]) (results_ct Try.results20 _ _ w.heap.size 43 #[.bool true, .slice a1 l1 c1, .slice a2 l2 c2, .slice a3 l3 c3, .int .i64 (nx : Int)] (0, 0) _ rfl (HD8.out.y.setAll _ _ _ _ _).heap Try.underlying43 rfl Try.size43) rfl ?_
                    exact RcEnd.yes (N := ndOf true nx s) HYE.out (below_setAll HD8.out.below w.heap.size _ _ _ _ _ (Nat.le_refl _) HD8.out.below.size) (HD8.out.rdat' _ _ _ _ _)
    · by_cases h2 : kn = 2
      · subst h2
        have HKD : Hid ((bs.getD 0 0).toNat = if false then 1 else 2) := HKF.out
        clear HKF
        have HS0 := hide (HSS.out false)
        as_aux_lemma =>
          have HDQ := hide (dcf_yes (lf := false) HL.out HKD.out)
          have HPQ : Hid (∀ s, pl false (start false (((bs.drop 1).drop 2).drop 4)) (beval ((bs.drop 1).take 2)) = some s → bs = (ndOf false (beval (((bs.drop 1).drop 2).take 4)) s).body ++ s.rest) := fun s hp => page_back HL.out HKD.out hp
          have HBL : Hid (beval ((bs.drop 1).take 2) < 65536) := beval_lt2 (bs.drop 1)
          have HB1 : Hid ((bs.drop 1).length = 503) := by rw [Hid, List.length_drop, HL.out]
          generalize bs.drop 1 = B1 at *
          go_enter Try.func20, Try.ntmps20
          go_upto_region 5 with fail
          clear HBY HY0 hcA hcB hcut HSS HKD
          generalize (((w.alloc (.cells #[.bool false, .slice none 0 0, .slice none 0 0, .slice none 0 0, .int .i64 0] 43)).alloc (.cells #[.slice ra1 503 (pc - 1), .bool false] 78)).alloc (.cells #[.bool false, .slice none 0 0, .slice none 0 0, .slice none 0 0, .int .i64 0] 43)) = W0 at *
          have HN1 : Hid (Calls Try.prog 45 #[.pointer (some ⟨w.heap.size + 1, 0, none⟩), .int .i64 2] W0 (RNumEnd W0 (w.heap.size + 1) ra1 (pc - 1) B1 false 2)) := rnum_any HS0.out.rd 2 (by omega)
          go_wp2_with fail
          refine HN1.out.mono ?_
          rintro e W1 hE
          obtain ⟨cc, R1, b1, ra2, rc2, rfl, hs1, hn1⟩ := HS0.out.num hE
          obtain ⟨rfl, ecc, eR1⟩ := nout_ok (by show 2 ≤ B1.length; rw [HB1.out]; omega) hn1
          have HS1 : Hid (RSr w W1 false 0 (.slice none 0 0) (.slice none 0 0) (.slice none 0 0) ⟨[], [], [], R1⟩ false ra2 rc2) := hs1
          have HCC : Hid (cc = beval (B1.take 2)) := ecc
          have HR1 : Hid (R1 = B1.drop 2) := eR1
          have HCL : Hid (cc < 65536) := by rw [HCC.out]; exact HBL.out
          have HRQ : Hid (R1.length = 501) := by rw [HR1.out, Hid, List.length_drop, HB1.out]
          clear hE hs1 hn1 HN1 HS0 ecc eR1 HBL
          go_upto_region 6 with fail
          have HN2 : Hid (Calls Try.prog 45 #[.pointer (some ⟨w.heap.size + 1, 0, none⟩), .int .i64 4] W1 (RNumEnd W1 (w.heap.size + 1) ra2 rc2 R1 false 4)) := rnum_any HS1.out.rd 4 (by omega)
          go_wp2_with fail
          refine HN2.out.mono ?_
          rintro e W2 hE
          obtain ⟨nx, R7, b2, ra3, rc3, rfl, hs2, hn2⟩ := HS1.out.num hE
          obtain ⟨rfl, ex0, eR0⟩ := nout_ok (by show 4 ≤ R1.length; rw [HRQ.out]; omega) hn2
          have enx : nx = beval (R1.take 4) := ex0
          have eR7 : R7 = R1.drop 4 := eR0
          have HS2 : Hid (RSr w W2 false 0 (.slice none 0 0) (.slice none 0 0) (.slice none 0 0) ⟨[], [], [], R7⟩ false ra3 rc3) := hs2
          have HRL : Hid (R7.length ≤ 504) := by rw [eR7, Hid, List.length_drop, HRQ.out]; omega
          have HDC : Hid (dcf bs = fin false nx (pl false (start false R7) cc)) := by rw [eR7, enx, HR1.out, HCC.out]; exact HDQ.out
          have HPB : Hid (∀ s, pl false (start false R7) cc = some s → bs = (ndOf false nx s).body ++ s.rest) := by rw [eR7, enx, HR1.out, HCC.out]; exact HPQ.out
          clear hE hs2 hn2 HN2 HS1 ex0 eR0 enx eR7 HDQ HPQ HR1 HCC HRQ HB1
          have HS3 := hide (HS2.out.setN (nx : Int))
          obtain ⟨k0, k1, k2, k3, k4, f0, f1, f2, f3, f4⟩ := HS2.out.m.cells
          go_upto_region 7 with fail
          clear k0 k1 k2 k3 k4 f0 f1 f2 f3 f4 HS2
          generalize W2.setCell ⟨w.heap.size + 1 + 1, 4, none⟩ (.int .i64 (nx : Int)) = W3 at *
          obtain ⟨k0, k1, k2, k3, k4, f0, f1, f2, f3, f4⟩ := HS3.out.m.cells
          go_upto_if 42 with fail
          clear k0 k1 k2 k3 k4 f0 f1 f2 f3 f4
          go_cut [] from 43 (fun wx => ∃ (s : PS) (bad : Bool) (pk pv pi : Value) (ra : Option Addr) (rc : Nat), LInv false R7 cc 0 s bad ∧ RSr w wx false (nx : Int) pk pv pi s bad ra rc)
          case first =>
            go_upto_region 8 with fail
            as_aux_lemma =>
              revert HS3
              generalize ra3 = ra, rc3 = rc
              intro HS3
              refine wp_region_held_drew (S := fun w' => Below w.heap.size w w') (by kernel_rfl) (RSr.next (W' := W3.drew) HS3.out (below_drewN _ _ 1)).below (fun st0 => ?_)
              refine take_to 0 43 (.pointer (some ⟨w.heap.size + 1 + 1, 3, none⟩)) rfl (by kernel_rfl) (by kernel_rfl) (by kernel_rfl) (fun _ _ _ h => h) rfl (by rfl) (fun w hw => by rfl) st0 ?_
              simp only [Act.put, List.setIfInBounds_toArray, List.set_cons_zero, List.set_cons_succ]
              refine take_to 2 45 (.pointer (some ⟨w.heap.size + 1, 0, none⟩)) rfl (by kernel_rfl) (by kernel_rfl) (by kernel_rfl) (fun _ _ _ h => h) rfl (by rfl) (fun w hw => by rfl) st0 ?_
              simp only [Act.put, List.setIfInBounds_toArray, List.set_cons_zero, List.set_cons_succ]
              have HU0 := hide (HS3.out.next (W' := W3.drew) (below_drewN _ _ 1))
              clear st0
              generalize W3.drew = U0 at *
              have HN : Hid (Calls Try.prog 45 #[.pointer (some ⟨w.heap.size + 1, 0, none⟩), .int .i64 4] U0 (RNumEnd U0 (w.heap.size + 1) ra rc ((⟨[], [], [], R7⟩) : PS).rest false 4)) := rnum_any HU0.out.rd 4 (by omega)
              refine wpAnyH_all (rs := [1, 3]) (by kernel_rfl) (by simp) ?_
              intro n hn
              rcases (by simpa using hn : n = 1 ∨ n = 3) with rfl | rfl
              · refine op_to 44 (.slice none 0 0) _ rfl rfl (by rfl) (op_load _ _ 24 (.tmp 43) rfl (.pointer (some ⟨_, _, none⟩)) _ rfl (run_loadAny _ _ _ 24 _ Try.isAgg24 HU0.out.m.cells.k3)) ⟨HU0.out.below, ?_⟩
                simp only [Act.put, List.setIfInBounds_toArray, List.set_cons_zero, List.set_cons_succ]
                refine step_call2_to 3 46 45 rfl (by kernel_rfl) rfl (by rfl) (.tmp 45) (.const (.int .i64 4)) _ rfl _ _ rfl rfl Try.enters45 HN.out ?_
                rintro e U1 hE
                obtain ⟨n1, R1, b1, ra1, rc1, rfl, hs1, hn1⟩ := HU0.out.num hE
                have HU1 := hide hs1
                have HN1 := hide hn1
                clear hE hs1 hn1
                refine ⟨_, rfl, HU1.out.below, ?_⟩
                simp only [Act.put, List.setIfInBounds_toArray, List.set_cons_zero, List.set_cons_succ]
                have HU3 := hide (HU1.out.next (W' := U1.alloc (.cells #[.int .i64 (n1 : Int)] 3)) ((Below.refl _ _).alloc (Nat.le_refl _) _))
                refine step_to 4 47 (.slice (some ⟨U1.heap.size, 0, none⟩) 1 1) (U1.alloc (.cells #[.int .i64 (n1 : Int)] 3)) rfl (by kernel_rfl) rfl (by rfl) (op_build24 _ _ (.tmp 46) rfl _ rfl _) HU3.out.below ?_
                simp only [Act.put, List.setIfInBounds_toArray, List.set_cons_zero, List.set_cons_succ]
                refine step_append_row 5 48 rfl (by kernel_rfl) rfl rfl (.tmp 44) (.tmp 47) 24 rfl (w.heap.size + 1 + 1 + 1) 3 (.int .i64 0) 1 8 Try.underlying24 Try.info3 rfl (by omega) (.slice none 0 0) ([] : List Int).length (intCells ([] : List Int)) (.slice (some ⟨U1.heap.size, 0, none⟩) 1 1) 1 (intCells [(n1 : Int)]) rfl rfl HU3.out.oi (row_int U1 _) rfl (one_intCells _) (by first | omega | decide) (by first | omega | decide) HU3.out.sz ?_
                intro u3 U3 ho3 hg3
                obtain ⟨wa, wd, ew⟩ := owns_len ho3
                subst ew
                have HU4 := hide (HU3.out.appI ho3 hg3)
                obtain ⟨hb3, hx3⟩ := HU3.out.gr HU3.out.oi (by decide) hg3
                refine ⟨hb3, ?_⟩
                simp only [Act.put, List.setIfInBounds_toArray, List.set_cons_zero, List.set_cons_succ]
                refine step_to 6 49 (.pointer (some ⟨w.heap.size + 1 + 1, 3, none⟩)) U3 rfl (by kernel_rfl) rfl (by rfl) (by rfl) hb3 ?_
                simp only [Act.put, List.setIfInBounds_toArray, List.set_cons_zero, List.set_cons_succ]
                refine step_store_to 7 (U3.setCell ⟨w.heap.size + 1 + 1, 3, none⟩ (.slice wa (([] : List Int).length + 1) wd)) rfl (by kernel_rfl) rfl (by rfl) 24 (.tmp 49) (.tmp 48) rfl (.pointer (some ⟨w.heap.size + 1 + 1, 3, none⟩)) (.slice wa (([] : List Int).length + 1) wd) rfl rfl (storeSl24 _ _ _ _ _ _ _ hx3.cells.k3 hx3.cells.f3) HU4.out.below ?_
                refine wpAnyH_done (by kernel_rfl) ?_ _
                go_wp2_with fail
                go_meet
                exact ⟨_, _, _, _, _, _, _, linv0 HRL.out HN1.out, HU4.out⟩
              · refine op_call2r 46 45 rfl rfl (by rfl) (.tmp 45) (.const (.int .i64 4)) _ rfl _ _ rfl rfl Try.enters45 HN.out ?_
                rintro e U1 hE
                obtain ⟨n1, R1, b1, ra1, rc1, rfl, hs1, hn1⟩ := HU0.out.num hE
                have HU1 := hide hs1
                have HN1 := hide hn1
                clear hE hs1 hn1
                refine ⟨_, rfl, HU1.out.below, ?_⟩
                simp only [Act.put, List.setIfInBounds_toArray, List.set_cons_zero, List.set_cons_succ]
                refine wpAnyH_all (rs := [1, 4]) (by kernel_rfl) (by simp) ?_
                intro n hn
                rcases (by simpa using hn : n = 1 ∨ n = 4) with rfl | rfl
                · refine op_to 44 (.slice none 0 0) _ rfl rfl (by rfl) (op_load _ _ 24 (.tmp 43) rfl (.pointer (some ⟨_, _, none⟩)) _ rfl (run_loadAny _ _ _ 24 _ Try.isAgg24 HU1.out.m.cells.k3)) ⟨HU1.out.below, ?_⟩
                  simp only [Act.put, List.setIfInBounds_toArray, List.set_cons_zero, List.set_cons_succ]
                  have HU3 := hide (HU1.out.next (W' := U1.alloc (.cells #[.int .i64 (n1 : Int)] 3)) ((Below.refl _ _).alloc (Nat.le_refl _) _))
                  refine step_to 4 47 (.slice (some ⟨U1.heap.size, 0, none⟩) 1 1) (U1.alloc (.cells #[.int .i64 (n1 : Int)] 3)) rfl (by kernel_rfl) rfl (by rfl) (op_build24 _ _ (.tmp 46) rfl _ rfl _) HU3.out.below ?_
                  simp only [Act.put, List.setIfInBounds_toArray, List.set_cons_zero, List.set_cons_succ]
                  refine step_append_row 5 48 rfl (by kernel_rfl) rfl rfl (.tmp 44) (.tmp 47) 24 rfl (w.heap.size + 1 + 1 + 1) 3 (.int .i64 0) 1 8 Try.underlying24 Try.info3 rfl (by omega) (.slice none 0 0) ([] : List Int).length (intCells ([] : List Int)) (.slice (some ⟨U1.heap.size, 0, none⟩) 1 1) 1 (intCells [(n1 : Int)]) rfl rfl HU3.out.oi (row_int U1 _) rfl (one_intCells _) (by first | omega | decide) (by first | omega | decide) HU3.out.sz ?_
                  intro u3 U3 ho3 hg3
                  obtain ⟨wa, wd, ew⟩ := owns_len ho3
                  subst ew
                  have HU4 := hide (HU3.out.appI ho3 hg3)
                  obtain ⟨hb3, hx3⟩ := HU3.out.gr HU3.out.oi (by decide) hg3
                  refine ⟨hb3, ?_⟩
                  simp only [Act.put, List.setIfInBounds_toArray, List.set_cons_zero, List.set_cons_succ]
                  refine step_to 6 49 (.pointer (some ⟨w.heap.size + 1 + 1, 3, none⟩)) U3 rfl (by kernel_rfl) rfl (by rfl) (by rfl) hb3 ?_
                  simp only [Act.put, List.setIfInBounds_toArray, List.set_cons_zero, List.set_cons_succ]
                  refine step_store_to 7 (U3.setCell ⟨w.heap.size + 1 + 1, 3, none⟩ (.slice wa (([] : List Int).length + 1) wd)) rfl (by kernel_rfl) rfl (by rfl) 24 (.tmp 49) (.tmp 48) rfl (.pointer (some ⟨w.heap.size + 1 + 1, 3, none⟩)) (.slice wa (([] : List Int).length + 1) wd) rfl rfl (storeSl24 _ _ _ _ _ _ _ hx3.cells.k3 hx3.cells.f3) HU4.out.below ?_
                  refine wpAnyH_done (by kernel_rfl) ?_ _
                  go_wp2_with fail
                  go_meet
                  exact ⟨_, _, _, _, _, _, _, linv0 HRL.out HN1.out, HU4.out⟩
                · have HU3 := hide (HU1.out.next (W' := U1.alloc (.cells #[.int .i64 (n1 : Int)] 3)) ((Below.refl _ _).alloc (Nat.le_refl _) _))
                  refine op_to 47 (.slice (some ⟨U1.heap.size, 0, none⟩) 1 1) (U1.alloc (.cells #[.int .i64 (n1 : Int)] 3)) rfl rfl (by rfl) (op_build24 _ _ (.tmp 46) rfl _ rfl _) ⟨HU3.out.below, ?_⟩
                  simp only [Act.put, List.setIfInBounds_toArray, List.set_cons_zero, List.set_cons_succ]
                  refine step_to 1 44 (.slice none 0 0) _ rfl (by kernel_rfl) rfl (by rfl) (op_load _ _ 24 (.tmp 43) rfl (.pointer (some ⟨_, _, none⟩)) _ rfl (run_loadAny _ _ _ 24 _ Try.isAgg24 HU3.out.m.cells.k3)) HU3.out.below ?_
                  simp only [Act.put, List.setIfInBounds_toArray, List.set_cons_zero, List.set_cons_succ]
                  refine step_append_row 5 48 rfl (by kernel_rfl) rfl rfl (.tmp 44) (.tmp 47) 24 rfl (w.heap.size + 1 + 1 + 1) 3 (.int .i64 0) 1 8 Try.underlying24 Try.info3 rfl (by omega) (.slice none 0 0) ([] : List Int).length (intCells ([] : List Int)) (.slice (some ⟨U1.heap.size, 0, none⟩) 1 1) 1 (intCells [(n1 : Int)]) rfl rfl HU3.out.oi (row_int U1 _) rfl (one_intCells _) (by first | omega | decide) (by first | omega | decide) HU3.out.sz ?_
                  intro u3 U3 ho3 hg3
                  obtain ⟨wa, wd, ew⟩ := owns_len ho3
                  subst ew
                  have HU4 := hide (HU3.out.appI ho3 hg3)
                  obtain ⟨hb3, hx3⟩ := HU3.out.gr HU3.out.oi (by decide) hg3
                  refine ⟨hb3, ?_⟩
                  simp only [Act.put, List.setIfInBounds_toArray, List.set_cons_zero, List.set_cons_succ]
                  refine step_to 6 49 (.pointer (some ⟨w.heap.size + 1 + 1, 3, none⟩)) U3 rfl (by kernel_rfl) rfl (by rfl) (by rfl) hb3 ?_
                  simp only [Act.put, List.setIfInBounds_toArray, List.set_cons_zero, List.set_cons_succ]
                  refine step_store_to 7 (U3.setCell ⟨w.heap.size + 1 + 1, 3, none⟩ (.slice wa (([] : List Int).length + 1) wd)) rfl (by kernel_rfl) rfl (by rfl) 24 (.tmp 49) (.tmp 48) rfl (.pointer (some ⟨w.heap.size + 1 + 1, 3, none⟩)) (.slice wa (([] : List Int).length + 1) wd) rfl rfl (storeSl24 _ _ _ _ _ _ _ hx3.cells.k3 hx3.cells.f3) HU4.out.below ?_
                  refine wpAnyH_done (by kernel_rfl) ?_ _
                  go_wp2_with fail
                  go_meet
                  exact ⟨_, _, _, _, _, _, _, linv0 HRL.out HN1.out, HU4.out⟩
          case rest =>
          have HST := hide hcut
          clear hcut HS3
          generalize wc = W3 at *
          go_wp2
          go_loopw [7] (fun i wr => ∃ (j : Nat) (s : PS) (bad : Bool) (pk pv pi : Value) (ra : Option Addr) (rc : Nat), j ≤ cc ∧ i = .int .i64 (j : Int) ∧ Hid (LInv false R7 cc j s bad) ∧ Hid (RSr w wr false (nx : Int) pk pv pi s bad ra rc)) (fun i _ => cc - (intOf i).toNat)
          case atStart =>
            obtain ⟨s, bad, pk, pv, pi, ra, rc, h1, h2⟩ := HST.out
            exact ⟨0, s, bad, pk, pv, pi, ra, rc, by omega, rfl, h1, h2⟩
          case round =>
            obtain ⟨j, s, bad, pk, pv, pi, ra, rc, hj, rfl, HLI, HD⟩ := hrel
            have hcl : cc < 65536 := HCL.out
            have HF := hide HLI.out.2
            clear HST
            cases bad with
            | true =>
              have HNO : Hid (dcf bs = none) := by
                rcases HLI.out.1 with ⟨e, _⟩ | ⟨_, e⟩
                · cases e
                · rw [Hid, HDC.out, e]
                  rfl
              have hrb : wr.cell? ⟨w.heap.size + 1, 1, none⟩ = some (.bool true) := by rw [cell_row HD.out.r]; rfl
              by_cases hjc : j < cc
              · go_upto_region 16 with fail
                clear hrb
                as_aux_lemma =>
                  have HENC : Hid (Calls Try.prog 18 #[.agg #[.bool false, pk, pv, pi, .int .i64 (nx : Int)]] wr (EncEnd wr (ndOf false nx s))) := rencode_any (N := ndOf false nx s) HD.out.rdat (HF.out.fits (by omega) false nx)
                  have hbad : wr.cell? ⟨w.heap.size + 1, 1, none⟩ = some (.bool true) := by rw [cell_row HD.out.r]; rfl
                  obtain ⟨k0, k1, k2, k3, k4, f0, f1, f2, f3, f4⟩ := HD.out.m.cells
                  go_wp2_with fail
                  refine HENC.out.mono ?_
                  clear k0 k1 k2 k3 k4 f0 f1 f2 f3 f4 hbad HENC
                  rintro e W8 hE
                  have HD8 := hide (HD.out.next hE.below)
                  have hbad : W8.cell? ⟨w.heap.size + 1, 1, none⟩ = some (.bool true) := by rw [cell_row HD8.out.r]; rfl
                  obtain ⟨v8, c8, rfl⟩ := enc_val hE
                  clear hE HD
                  obtain ⟨l0, l1, l2, l3, l4, i0, i1, i2, i3, i4⟩ := HD8.out.y.cells
                  go_wp2
                  refine bodyPost_ret (v := .tuple #[.agg #[.bool false, .slice none 0 0, .slice none 0 0, .slice none 0 0, .int .i64 0], .bool false]) (results_ct Try.results20 _ _ w.heap.size 43 #[.bool false, .slice none 0 0, .slice none 0 0, .slice none 0 0, .int .i64 0] (0, 0) _ rfl (HD8.out.y.setAll _ _ _ _ _).heap Try.underlying43 rfl Try.size43) rfl ?_
                  exact RcEnd.no HNO.out (below_setAll HD8.out.below w.heap.size _ _ _ _ _ (Nat.le_refl _) HD8.out.below.size)
              · have hje : j = cc := by omega
                subst hje
                go_upto_region 16 with fail
                clear hrb
                as_aux_lemma =>
                  have HENC : Hid (Calls Try.prog 18 #[.agg #[.bool false, pk, pv, pi, .int .i64 (nx : Int)]] wr (EncEnd wr (ndOf false nx s))) := rencode_any (N := ndOf false nx s) HD.out.rdat (HF.out.fits (by omega) false nx)
                  have hbad : wr.cell? ⟨w.heap.size + 1, 1, none⟩ = some (.bool true) := by rw [cell_row HD.out.r]; rfl
                  obtain ⟨k0, k1, k2, k3, k4, f0, f1, f2, f3, f4⟩ := HD.out.m.cells
                  go_wp2_with fail
                  refine HENC.out.mono ?_
                  clear k0 k1 k2 k3 k4 f0 f1 f2 f3 f4 hbad HENC
                  rintro e W8 hE
                  have HD8 := hide (HD.out.next hE.below)
                  have hbad : W8.cell? ⟨w.heap.size + 1, 1, none⟩ = some (.bool true) := by rw [cell_row HD8.out.r]; rfl
                  obtain ⟨v8, c8, rfl⟩ := enc_val hE
                  clear hE HD
                  obtain ⟨l0, l1, l2, l3, l4, i0, i1, i2, i3, i4⟩ := HD8.out.y.cells
                  go_wp2
                  refine bodyPost_ret (v := .tuple #[.agg #[.bool false, .slice none 0 0, .slice none 0 0, .slice none 0 0, .int .i64 0], .bool false]) (results_ct Try.results20 _ _ w.heap.size 43 #[.bool false, .slice none 0 0, .slice none 0 0, .slice none 0 0, .int .i64 0] (0, 0) _ rfl (HD8.out.y.setAll _ _ _ _ _).heap Try.underlying43 rfl Try.size43) rfl ?_
                  exact RcEnd.no HNO.out (below_setAll HD8.out.below w.heap.size _ _ _ _ _ (Nat.le_refl _) HD8.out.below.size)
            | false =>
              have HP : Hid (pl false (start false R7) j = some s) := by
                rcases HLI.out.1 with ⟨_, e⟩ | ⟨e, _⟩
                · exact e
                · cases e
              have hrb : wr.cell? ⟨w.heap.size + 1, 1, none⟩ = some (.bool false) := by rw [cell_row HD.out.r]; rfl
              by_cases hjc : j < cc
              · go_upto_region 12 with fail
                clear hrb
                have hnk : s.keys.length ≤ 65536 := by have := HF.out.nk; omega
                have hnv : s.vals.length ≤ 65536 := by have := HF.out.nv; omega
                have hni : s.kids.length ≤ 65537 := by have := HF.out.ni; omega
                go_cut [] from 50 to 90 (fun wx => ∃ (T R1 : List UInt8) (b1 : Bool) (u : Value) (ra1 : Option Addr) (rc1 : Nat), Hid (XOut s.rest false T R1 b1) ∧ Hid (RSr w wx false (nx : Int) u pv pi ⟨s.keys ++ [T], s.vals, s.kids, R1⟩ b1 ra1 rc1))
                case first =>
                  as_aux_lemma =>
                    refine wp_region_held_drew (S := fun w' => Below w.heap.size w w') (by kernel_rfl) (RSr.next (W' := wr.drew) HD.out (below_drewN _ _ 1)).below (fun st0 => ?_)
                    refine take_to 0 62 (.pointer (some ⟨w.heap.size + 1 + 1, 1, none⟩)) rfl (by kernel_rfl) (by kernel_rfl) (by kernel_rfl) (fun _ _ _ h => h) rfl (by rfl) (fun w hw => by rfl) st0 ?_
                    simp only [Act.put, List.setIfInBounds_toArray, List.set_cons_zero, List.set_cons_succ]
                    refine take_to 2 64 (.pointer (some ⟨w.heap.size + 1, 0, none⟩)) rfl (by kernel_rfl) (by kernel_rfl) (by kernel_rfl) (fun _ _ _ h => h) rfl (by rfl) (fun w hw => by rfl) st0 ?_
                    simp only [Act.put, List.setIfInBounds_toArray, List.set_cons_zero, List.set_cons_succ]
                    refine take_to 3 65 (.pointer (some ⟨w.heap.size + 1, 0, none⟩)) rfl (by kernel_rfl) (by kernel_rfl) (by kernel_rfl) (fun _ _ _ h => h) rfl (by rfl) (fun w hw => by rfl) st0 ?_
                    simp only [Act.put, List.setIfInBounds_toArray, List.set_cons_zero, List.set_cons_succ]
                    have HU0 := hide (HD.out.next (W' := wr.drew) (below_drewN _ _ 1))
                    clear st0
                    generalize wr.drew = U0 at *
                    have HN : Hid (Calls Try.prog 45 #[.pointer (some ⟨w.heap.size + 1, 0, none⟩), .int .i64 2] U0 (RNumEnd U0 (w.heap.size + 1) ra rc ((s) : PS).rest false 2)) := rnum_any HU0.out.rd 2 (by omega)
                    refine wpAnyH_all (rs := [1, 4]) (by kernel_rfl) (by simp) ?_
                    intro n hn
                    rcases (by simpa using hn : n = 1 ∨ n = 4) with rfl | rfl
                    · refine op_to 63 (pk) _ rfl rfl (by rfl) (op_load _ _ 27 (.tmp 62) rfl (.pointer (some ⟨_, _, none⟩)) _ rfl (run_loadAny _ _ _ 27 _ Try.isAgg27 HU0.out.m.cells.k1)) ⟨HU0.out.below, ?_⟩
                      simp only [Act.put, List.setIfInBounds_toArray, List.set_cons_zero, List.set_cons_succ]
                      refine step_call2_to 4 66 45 rfl (by kernel_rfl) rfl (by rfl) (.tmp 65) (.const (.int .i64 2)) _ rfl _ _ rfl rfl Try.enters45 HN.out ?_
                      rintro e U1 hE
                      obtain ⟨n1, R1, b1, ra1, rc1, rfl, hs1, hn1⟩ := HU0.out.num hE
                      have HU1 := hide hs1
                      have HN1 := hide hn1
                      clear hE hs1 hn1
                      refine ⟨_, rfl, HU1.out.below, ?_⟩
                      simp only [Act.put, List.setIfInBounds_toArray, List.set_cons_zero, List.set_cons_succ]
                      have HT : Hid (Calls Try.prog 46 #[.pointer (some ⟨w.heap.size + 1, 0, none⟩), .int .i64 (n1 : Int)] U1 (TakeEnd U1 (w.heap.size + 1) ra1 rc1 R1 b1 n1)) := take_any HU1.out.rd n1 (nout_lt HN1.out)
                      refine step_call2_to 5 67 46 rfl (by kernel_rfl) rfl (by rfl) (.tmp 64) (.tmp 66) _ rfl _ _ rfl rfl Try.enters46 HT.out ?_
                      rintro e U2 hE
                      obtain ⟨a2, c2, T, R2, b2, ra2, rc2, rfl, hsl2, hs2, ht2⟩ := HU1.out.tak hE
                      have HU2 := hide hs2
                      have HX := hide (xout HN1.out ht2)
                      have HSL := hide hsl2
                      clear hE hs2 ht2 hsl2
                      refine ⟨_, rfl, HU2.out.below, ?_⟩
                      simp only [Act.put, List.setIfInBounds_toArray, List.set_cons_zero, List.set_cons_succ]
                      refine take_to 6 68 (.string (strOf T)) rfl (by kernel_rfl) (by kernel_rfl) (by kernel_rfl) (fun _ _ _ h => h) rfl (by rfl) (fun w' hw => op_conv _ _ 28 9 (.tmp 67) rfl _ _ rfl (run_str (HSL.out.belowW hw))) HU2.out.below ?_
                      simp only [Act.put, List.setIfInBounds_toArray, List.set_cons_zero, List.set_cons_succ]
                      have HU3 := hide (HU2.out.next (W' := U2.alloc (.cells #[.string (strOf T)] 9)) ((Below.refl _ _).alloc (Nat.le_refl _) _))
                      refine step_to 7 69 (.slice (some ⟨U2.heap.size, 0, none⟩) 1 1) (U2.alloc (.cells #[.string (strOf T)] 9)) rfl (by kernel_rfl) rfl (by rfl) (op_buildStr _ _ (.tmp 68) rfl _ rfl _) HU3.out.below ?_
                      simp only [Act.put, List.setIfInBounds_toArray, List.set_cons_zero, List.set_cons_succ]
                      refine step_append_atS 8 70 rfl (by kernel_rfl) rfl rfl (.tmp 63) (.tmp 69) rfl (w.heap.size + 1 + 1 + 1) (pk) s.keys.length (strCells s.keys) (.slice (some ⟨U2.heap.size, 0, none⟩) 1 1) 1 [.string (strOf T)] rfl rfl HU3.out.ok (row_str U2 T) rfl (fun q hq => by simp at hq; subst hq; rfl) (by omega) (by omega) HU3.out.sz ?_
                      intro u3 U3 ho3 hg3 hw3
                      obtain ⟨wa, wd, ew⟩ := owns_len ho3
                      subst ew
                      have HU4 := hide (HU3.out.appK (T := T) ho3 hg3 hw3)
                      obtain ⟨hb3, hx3⟩ := HU3.out.gr HU3.out.ok (by decide) hg3
                      refine ⟨hb3, ?_⟩
                      simp only [Act.put, List.setIfInBounds_toArray, List.set_cons_zero, List.set_cons_succ]
                      refine step_to 9 71 (.pointer (some ⟨w.heap.size + 1 + 1, 1, none⟩)) U3 rfl (by kernel_rfl) rfl (by rfl) (by rfl) hb3 ?_
                      simp only [Act.put, List.setIfInBounds_toArray, List.set_cons_zero, List.set_cons_succ]
                      refine step_store_to 10 (U3.setCell ⟨w.heap.size + 1 + 1, 1, none⟩ (.slice wa (s.keys.length + 1) wd)) rfl (by kernel_rfl) rfl (by rfl) 27 (.tmp 71) (.tmp 70) rfl (.pointer (some ⟨w.heap.size + 1 + 1, 1, none⟩)) (.slice wa (s.keys.length + 1) wd) rfl rfl (storeSl _ _ _ _ _ _ _ _ _ rfl (.inl rfl) hx3.cells.k1 hx3.cells.f1) HU4.out.below ?_
                      refine wpAnyH_done (by kernel_rfl) ?_ _
                      go_wp2_with fail
                      go_meet
                      exact ⟨T, R2, b2, _, ra2, rc2, HX.out, HU4.out⟩
                    · refine op_call2r 66 45 rfl rfl (by rfl) (.tmp 65) (.const (.int .i64 2)) _ rfl _ _ rfl rfl Try.enters45 HN.out ?_
                      rintro e U1 hE
                      obtain ⟨n1, R1, b1, ra1, rc1, rfl, hs1, hn1⟩ := HU0.out.num hE
                      have HU1 := hide hs1
                      have HN1 := hide hn1
                      clear hE hs1 hn1
                      refine ⟨_, rfl, HU1.out.below, ?_⟩
                      simp only [Act.put, List.setIfInBounds_toArray, List.set_cons_zero, List.set_cons_succ]
                      refine wpAnyH_all (rs := [1, 5]) (by kernel_rfl) (by simp) ?_
                      intro n hn
                      rcases (by simpa using hn : n = 1 ∨ n = 5) with rfl | rfl
                      · refine op_to 63 (pk) _ rfl rfl (by rfl) (op_load _ _ 27 (.tmp 62) rfl (.pointer (some ⟨_, _, none⟩)) _ rfl (run_loadAny _ _ _ 27 _ Try.isAgg27 HU1.out.m.cells.k1)) ⟨HU1.out.below, ?_⟩
                        simp only [Act.put, List.setIfInBounds_toArray, List.set_cons_zero, List.set_cons_succ]
                        have HT : Hid (Calls Try.prog 46 #[.pointer (some ⟨w.heap.size + 1, 0, none⟩), .int .i64 (n1 : Int)] U1 (TakeEnd U1 (w.heap.size + 1) ra1 rc1 R1 b1 n1)) := take_any HU1.out.rd n1 (nout_lt HN1.out)
                        refine step_call2_to 5 67 46 rfl (by kernel_rfl) rfl (by rfl) (.tmp 64) (.tmp 66) _ rfl _ _ rfl rfl Try.enters46 HT.out ?_
                        rintro e U2 hE
                        obtain ⟨a2, c2, T, R2, b2, ra2, rc2, rfl, hsl2, hs2, ht2⟩ := HU1.out.tak hE
                        have HU2 := hide hs2
                        have HX := hide (xout HN1.out ht2)
                        have HSL := hide hsl2
                        clear hE hs2 ht2 hsl2
                        refine ⟨_, rfl, HU2.out.below, ?_⟩
                        simp only [Act.put, List.setIfInBounds_toArray, List.set_cons_zero, List.set_cons_succ]
                        refine take_to 6 68 (.string (strOf T)) rfl (by kernel_rfl) (by kernel_rfl) (by kernel_rfl) (fun _ _ _ h => h) rfl (by rfl) (fun w' hw => op_conv _ _ 28 9 (.tmp 67) rfl _ _ rfl (run_str (HSL.out.belowW hw))) HU2.out.below ?_
                        simp only [Act.put, List.setIfInBounds_toArray, List.set_cons_zero, List.set_cons_succ]
                        have HU3 := hide (HU2.out.next (W' := U2.alloc (.cells #[.string (strOf T)] 9)) ((Below.refl _ _).alloc (Nat.le_refl _) _))
                        refine step_to 7 69 (.slice (some ⟨U2.heap.size, 0, none⟩) 1 1) (U2.alloc (.cells #[.string (strOf T)] 9)) rfl (by kernel_rfl) rfl (by rfl) (op_buildStr _ _ (.tmp 68) rfl _ rfl _) HU3.out.below ?_
                        simp only [Act.put, List.setIfInBounds_toArray, List.set_cons_zero, List.set_cons_succ]
                        refine step_append_atS 8 70 rfl (by kernel_rfl) rfl rfl (.tmp 63) (.tmp 69) rfl (w.heap.size + 1 + 1 + 1) (pk) s.keys.length (strCells s.keys) (.slice (some ⟨U2.heap.size, 0, none⟩) 1 1) 1 [.string (strOf T)] rfl rfl HU3.out.ok (row_str U2 T) rfl (fun q hq => by simp at hq; subst hq; rfl) (by omega) (by omega) HU3.out.sz ?_
                        intro u3 U3 ho3 hg3 hw3
                        obtain ⟨wa, wd, ew⟩ := owns_len ho3
                        subst ew
                        have HU4 := hide (HU3.out.appK (T := T) ho3 hg3 hw3)
                        obtain ⟨hb3, hx3⟩ := HU3.out.gr HU3.out.ok (by decide) hg3
                        refine ⟨hb3, ?_⟩
                        simp only [Act.put, List.setIfInBounds_toArray, List.set_cons_zero, List.set_cons_succ]
                        refine step_to 9 71 (.pointer (some ⟨w.heap.size + 1 + 1, 1, none⟩)) U3 rfl (by kernel_rfl) rfl (by rfl) (by rfl) hb3 ?_
                        simp only [Act.put, List.setIfInBounds_toArray, List.set_cons_zero, List.set_cons_succ]
                        refine step_store_to 10 (U3.setCell ⟨w.heap.size + 1 + 1, 1, none⟩ (.slice wa (s.keys.length + 1) wd)) rfl (by kernel_rfl) rfl (by rfl) 27 (.tmp 71) (.tmp 70) rfl (.pointer (some ⟨w.heap.size + 1 + 1, 1, none⟩)) (.slice wa (s.keys.length + 1) wd) rfl rfl (storeSl _ _ _ _ _ _ _ _ _ rfl (.inl rfl) hx3.cells.k1 hx3.cells.f1) HU4.out.below ?_
                        refine wpAnyH_done (by kernel_rfl) ?_ _
                        go_wp2_with fail
                        go_meet
                        exact ⟨T, R2, b2, _, ra2, rc2, HX.out, HU4.out⟩
                      · have HT : Hid (Calls Try.prog 46 #[.pointer (some ⟨w.heap.size + 1, 0, none⟩), .int .i64 (n1 : Int)] U1 (TakeEnd U1 (w.heap.size + 1) ra1 rc1 R1 b1 n1)) := take_any HU1.out.rd n1 (nout_lt HN1.out)
                        refine op_call2r 67 46 rfl rfl (by rfl) (.tmp 64) (.tmp 66) _ rfl _ _ rfl rfl Try.enters46 HT.out ?_
                        rintro e U2 hE
                        obtain ⟨a2, c2, T, R2, b2, ra2, rc2, rfl, hsl2, hs2, ht2⟩ := HU1.out.tak hE
                        have HU2 := hide hs2
                        have HX := hide (xout HN1.out ht2)
                        have HSL := hide hsl2
                        clear hE hs2 ht2 hsl2
                        refine ⟨_, rfl, HU2.out.below, ?_⟩
                        simp only [Act.put, List.setIfInBounds_toArray, List.set_cons_zero, List.set_cons_succ]
                        refine take_to 6 68 (.string (strOf T)) rfl (by kernel_rfl) (by kernel_rfl) (by kernel_rfl) (fun _ _ _ h => h) rfl (by rfl) (fun w' hw => op_conv _ _ 28 9 (.tmp 67) rfl _ _ rfl (run_str (HSL.out.belowW hw))) HU2.out.below ?_
                        simp only [Act.put, List.setIfInBounds_toArray, List.set_cons_zero, List.set_cons_succ]
                        have HU3 := hide (HU2.out.next (W' := U2.alloc (.cells #[.string (strOf T)] 9)) ((Below.refl _ _).alloc (Nat.le_refl _) _))
                        refine wpAnyH_all (rs := [1, 7]) (by kernel_rfl) (by simp) ?_
                        intro n hn
                        rcases (by simpa using hn : n = 1 ∨ n = 7) with rfl | rfl
                        · refine op_to 63 (pk) _ rfl rfl (by rfl) (op_load _ _ 27 (.tmp 62) rfl (.pointer (some ⟨_, _, none⟩)) _ rfl (run_loadAny _ _ _ 27 _ Try.isAgg27 HU2.out.m.cells.k1)) ⟨HU2.out.below, ?_⟩
                          simp only [Act.put, List.setIfInBounds_toArray, List.set_cons_zero, List.set_cons_succ]
                          refine step_to 7 69 (.slice (some ⟨U2.heap.size, 0, none⟩) 1 1) (U2.alloc (.cells #[.string (strOf T)] 9)) rfl (by kernel_rfl) rfl (by rfl) (op_buildStr _ _ (.tmp 68) rfl _ rfl _) HU3.out.below ?_
                          simp only [Act.put, List.setIfInBounds_toArray, List.set_cons_zero, List.set_cons_succ]
                          refine step_append_atS 8 70 rfl (by kernel_rfl) rfl rfl (.tmp 63) (.tmp 69) rfl (w.heap.size + 1 + 1 + 1) (pk) s.keys.length (strCells s.keys) (.slice (some ⟨U2.heap.size, 0, none⟩) 1 1) 1 [.string (strOf T)] rfl rfl HU3.out.ok (row_str U2 T) rfl (fun q hq => by simp at hq; subst hq; rfl) (by omega) (by omega) HU3.out.sz ?_
                          intro u3 U3 ho3 hg3 hw3
                          obtain ⟨wa, wd, ew⟩ := owns_len ho3
                          subst ew
                          have HU4 := hide (HU3.out.appK (T := T) ho3 hg3 hw3)
                          obtain ⟨hb3, hx3⟩ := HU3.out.gr HU3.out.ok (by decide) hg3
                          refine ⟨hb3, ?_⟩
                          simp only [Act.put, List.setIfInBounds_toArray, List.set_cons_zero, List.set_cons_succ]
                          refine step_to 9 71 (.pointer (some ⟨w.heap.size + 1 + 1, 1, none⟩)) U3 rfl (by kernel_rfl) rfl (by rfl) (by rfl) hb3 ?_
                          simp only [Act.put, List.setIfInBounds_toArray, List.set_cons_zero, List.set_cons_succ]
                          refine step_store_to 10 (U3.setCell ⟨w.heap.size + 1 + 1, 1, none⟩ (.slice wa (s.keys.length + 1) wd)) rfl (by kernel_rfl) rfl (by rfl) 27 (.tmp 71) (.tmp 70) rfl (.pointer (some ⟨w.heap.size + 1 + 1, 1, none⟩)) (.slice wa (s.keys.length + 1) wd) rfl rfl (storeSl _ _ _ _ _ _ _ _ _ rfl (.inl rfl) hx3.cells.k1 hx3.cells.f1) HU4.out.below ?_
                          refine wpAnyH_done (by kernel_rfl) ?_ _
                          go_wp2_with fail
                          go_meet
                          exact ⟨T, R2, b2, _, ra2, rc2, HX.out, HU4.out⟩
                        · refine op_to 69 (.slice (some ⟨U2.heap.size, 0, none⟩) 1 1) (U2.alloc (.cells #[.string (strOf T)] 9)) rfl rfl (by rfl) (op_buildStr _ _ (.tmp 68) rfl _ rfl _) ⟨HU3.out.below, ?_⟩
                          simp only [Act.put, List.setIfInBounds_toArray, List.set_cons_zero, List.set_cons_succ]
                          refine step_to 1 63 (pk) _ rfl (by kernel_rfl) rfl (by rfl) (op_load _ _ 27 (.tmp 62) rfl (.pointer (some ⟨_, _, none⟩)) _ rfl (run_loadAny _ _ _ 27 _ Try.isAgg27 HU3.out.m.cells.k1)) HU3.out.below ?_
                          simp only [Act.put, List.setIfInBounds_toArray, List.set_cons_zero, List.set_cons_succ]
                          refine step_append_atS 8 70 rfl (by kernel_rfl) rfl rfl (.tmp 63) (.tmp 69) rfl (w.heap.size + 1 + 1 + 1) (pk) s.keys.length (strCells s.keys) (.slice (some ⟨U2.heap.size, 0, none⟩) 1 1) 1 [.string (strOf T)] rfl rfl HU3.out.ok (row_str U2 T) rfl (fun q hq => by simp at hq; subst hq; rfl) (by omega) (by omega) HU3.out.sz ?_
                          intro u3 U3 ho3 hg3 hw3
                          obtain ⟨wa, wd, ew⟩ := owns_len ho3
                          subst ew
                          have HU4 := hide (HU3.out.appK (T := T) ho3 hg3 hw3)
                          obtain ⟨hb3, hx3⟩ := HU3.out.gr HU3.out.ok (by decide) hg3
                          refine ⟨hb3, ?_⟩
                          simp only [Act.put, List.setIfInBounds_toArray, List.set_cons_zero, List.set_cons_succ]
                          refine step_to 9 71 (.pointer (some ⟨w.heap.size + 1 + 1, 1, none⟩)) U3 rfl (by kernel_rfl) rfl (by rfl) (by rfl) hb3 ?_
                          simp only [Act.put, List.setIfInBounds_toArray, List.set_cons_zero, List.set_cons_succ]
                          refine step_store_to 10 (U3.setCell ⟨w.heap.size + 1 + 1, 1, none⟩ (.slice wa (s.keys.length + 1) wd)) rfl (by kernel_rfl) rfl (by rfl) 27 (.tmp 71) (.tmp 70) rfl (.pointer (some ⟨w.heap.size + 1 + 1, 1, none⟩)) (.slice wa (s.keys.length + 1) wd) rfl rfl (storeSl _ _ _ _ _ _ _ _ _ rfl (.inl rfl) hx3.cells.k1 hx3.cells.f1) HU4.out.below ?_
                          refine wpAnyH_done (by kernel_rfl) ?_ _
                          go_wp2_with fail
                          go_meet
                          exact ⟨T, R2, b2, _, ra2, rc2, HX.out, HU4.out⟩
                case rest =>
                  obtain ⟨T1, R1, b1, u1, ra', rc', HX1, HD1⟩ := hcut
                  generalize wc = Wm at *
                  obtain ⟨k0, k1, k2, k3, k4, f0, f1, f2, f3, f4⟩ := HD1.out.m.cells
                  go_upto_region 15 with fail
                  clear k0 k1 k2 k3 k4 f0 f1 f2 f3 f4 HD
                  as_aux_lemma =>
                    clear ra rc
                    generalize ra' = ra, rc' = rc at *
                    generalize R1 = R0 at *
                    generalize b1 = b0 at *
                    refine wp_region_held_drew (S := fun w' => Below w.heap.size w w') (by kernel_rfl) (RSr.next (W' := Wm.drew) HD1.out (below_drewN _ _ 1)).below (fun st0 => ?_)
                    refine take_to 0 84 (.pointer (some ⟨w.heap.size + 1 + 1, 3, none⟩)) rfl (by kernel_rfl) (by kernel_rfl) (by kernel_rfl) (fun _ _ _ h => h) rfl (by rfl) (fun w hw => by rfl) st0 ?_
                    simp only [Act.put, List.setIfInBounds_toArray, List.set_cons_zero, List.set_cons_succ]
                    refine take_to 2 86 (.pointer (some ⟨w.heap.size + 1, 0, none⟩)) rfl (by kernel_rfl) (by kernel_rfl) (by kernel_rfl) (fun _ _ _ h => h) rfl (by rfl) (fun w hw => by rfl) st0 ?_
                    simp only [Act.put, List.setIfInBounds_toArray, List.set_cons_zero, List.set_cons_succ]
                    have HU0 := hide (HD1.out.next (W' := Wm.drew) (below_drewN _ _ 1))
                    clear st0
                    generalize Wm.drew = U0 at *
                    have HN : Hid (Calls Try.prog 45 #[.pointer (some ⟨w.heap.size + 1, 0, none⟩), .int .i64 4] U0 (RNumEnd U0 (w.heap.size + 1) ra rc ((⟨s.keys ++ [T1], s.vals, s.kids, R0⟩) : PS).rest b0 4)) := rnum_any HU0.out.rd 4 (by omega)
                    refine wpAnyH_all (rs := [1, 3]) (by kernel_rfl) (by simp) ?_
                    intro n hn
                    rcases (by simpa using hn : n = 1 ∨ n = 3) with rfl | rfl
                    · refine op_to 85 (pi) _ rfl rfl (by rfl) (op_load _ _ 24 (.tmp 84) rfl (.pointer (some ⟨_, _, none⟩)) _ rfl (run_loadAny _ _ _ 24 _ Try.isAgg24 HU0.out.m.cells.k3)) ⟨HU0.out.below, ?_⟩
                      simp only [Act.put, List.setIfInBounds_toArray, List.set_cons_zero, List.set_cons_succ]
                      refine step_call2_to 3 87 45 rfl (by kernel_rfl) rfl (by rfl) (.tmp 86) (.const (.int .i64 4)) _ rfl _ _ rfl rfl Try.enters45 HN.out ?_
                      rintro e U1 hE
                      obtain ⟨n1, R1, b1, ra1, rc1, rfl, hs1, hn1⟩ := HU0.out.num hE
                      have HU1 := hide hs1
                      have HN1 := hide hn1
                      clear hE hs1 hn1
                      refine ⟨_, rfl, HU1.out.below, ?_⟩
                      simp only [Act.put, List.setIfInBounds_toArray, List.set_cons_zero, List.set_cons_succ]
                      have HU3 := hide (HU1.out.next (W' := U1.alloc (.cells #[.int .i64 (n1 : Int)] 3)) ((Below.refl _ _).alloc (Nat.le_refl _) _))
                      refine step_to 4 88 (.slice (some ⟨U1.heap.size, 0, none⟩) 1 1) (U1.alloc (.cells #[.int .i64 (n1 : Int)] 3)) rfl (by kernel_rfl) rfl (by rfl) (op_build24 _ _ (.tmp 87) rfl _ rfl _) HU3.out.below ?_
                      simp only [Act.put, List.setIfInBounds_toArray, List.set_cons_zero, List.set_cons_succ]
                      refine step_append_row 5 89 rfl (by kernel_rfl) rfl rfl (.tmp 85) (.tmp 88) 24 rfl (w.heap.size + 1 + 1 + 1) 3 (.int .i64 0) 1 8 Try.underlying24 Try.info3 rfl (by omega) (pi) s.kids.length (intCells s.kids) (.slice (some ⟨U1.heap.size, 0, none⟩) 1 1) 1 (intCells [(n1 : Int)]) rfl rfl HU3.out.oi (row_int U1 _) rfl (one_intCells _) (by first | omega | decide) (by first | omega | decide) HU3.out.sz ?_
                      intro u3 U3 ho3 hg3
                      obtain ⟨wa, wd, ew⟩ := owns_len ho3
                      subst ew
                      have HU4 := hide (HU3.out.appI ho3 hg3)
                      obtain ⟨hb3, hx3⟩ := HU3.out.gr HU3.out.oi (by decide) hg3
                      refine ⟨hb3, ?_⟩
                      simp only [Act.put, List.setIfInBounds_toArray, List.set_cons_zero, List.set_cons_succ]
                      refine step_to 6 90 (.pointer (some ⟨w.heap.size + 1 + 1, 3, none⟩)) U3 rfl (by kernel_rfl) rfl (by rfl) (by rfl) hb3 ?_
                      simp only [Act.put, List.setIfInBounds_toArray, List.set_cons_zero, List.set_cons_succ]
                      refine step_store_to 7 (U3.setCell ⟨w.heap.size + 1 + 1, 3, none⟩ (.slice wa (s.kids.length + 1) wd)) rfl (by kernel_rfl) rfl (by rfl) 24 (.tmp 90) (.tmp 89) rfl (.pointer (some ⟨w.heap.size + 1 + 1, 3, none⟩)) (.slice wa (s.kids.length + 1) wd) rfl rfl (storeSl24 _ _ _ _ _ _ _ hx3.cells.k3 hx3.cells.f3) HU4.out.below ?_
                      refine wpAnyH_done (by kernel_rfl) ?_ _
                      have HLN := hide (linvI HP.out hjc HF.out HX1.out HN1.out)
                      clear hx3 hb3 ho3 hg3
                      go_wp2
                      go_roundw
                      case rel => exact ⟨j + 1, _, _, _, _, _, _, _, by omega, by go_num, HLN.out, HU4.out⟩
                      case measure => simp [intOf]; omega
                    · refine op_call2r 87 45 rfl rfl (by rfl) (.tmp 86) (.const (.int .i64 4)) _ rfl _ _ rfl rfl Try.enters45 HN.out ?_
                      rintro e U1 hE
                      obtain ⟨n1, R1, b1, ra1, rc1, rfl, hs1, hn1⟩ := HU0.out.num hE
                      have HU1 := hide hs1
                      have HN1 := hide hn1
                      clear hE hs1 hn1
                      refine ⟨_, rfl, HU1.out.below, ?_⟩
                      simp only [Act.put, List.setIfInBounds_toArray, List.set_cons_zero, List.set_cons_succ]
                      refine wpAnyH_all (rs := [1, 4]) (by kernel_rfl) (by simp) ?_
                      intro n hn
                      rcases (by simpa using hn : n = 1 ∨ n = 4) with rfl | rfl
                      · refine op_to 85 (pi) _ rfl rfl (by rfl) (op_load _ _ 24 (.tmp 84) rfl (.pointer (some ⟨_, _, none⟩)) _ rfl (run_loadAny _ _ _ 24 _ Try.isAgg24 HU1.out.m.cells.k3)) ⟨HU1.out.below, ?_⟩
                        simp only [Act.put, List.setIfInBounds_toArray, List.set_cons_zero, List.set_cons_succ]
                        have HU3 := hide (HU1.out.next (W' := U1.alloc (.cells #[.int .i64 (n1 : Int)] 3)) ((Below.refl _ _).alloc (Nat.le_refl _) _))
                        refine step_to 4 88 (.slice (some ⟨U1.heap.size, 0, none⟩) 1 1) (U1.alloc (.cells #[.int .i64 (n1 : Int)] 3)) rfl (by kernel_rfl) rfl (by rfl) (op_build24 _ _ (.tmp 87) rfl _ rfl _) HU3.out.below ?_
                        simp only [Act.put, List.setIfInBounds_toArray, List.set_cons_zero, List.set_cons_succ]
                        refine step_append_row 5 89 rfl (by kernel_rfl) rfl rfl (.tmp 85) (.tmp 88) 24 rfl (w.heap.size + 1 + 1 + 1) 3 (.int .i64 0) 1 8 Try.underlying24 Try.info3 rfl (by omega) (pi) s.kids.length (intCells s.kids) (.slice (some ⟨U1.heap.size, 0, none⟩) 1 1) 1 (intCells [(n1 : Int)]) rfl rfl HU3.out.oi (row_int U1 _) rfl (one_intCells _) (by first | omega | decide) (by first | omega | decide) HU3.out.sz ?_
                        intro u3 U3 ho3 hg3
                        obtain ⟨wa, wd, ew⟩ := owns_len ho3
                        subst ew
                        have HU4 := hide (HU3.out.appI ho3 hg3)
                        obtain ⟨hb3, hx3⟩ := HU3.out.gr HU3.out.oi (by decide) hg3
                        refine ⟨hb3, ?_⟩
                        simp only [Act.put, List.setIfInBounds_toArray, List.set_cons_zero, List.set_cons_succ]
                        refine step_to 6 90 (.pointer (some ⟨w.heap.size + 1 + 1, 3, none⟩)) U3 rfl (by kernel_rfl) rfl (by rfl) (by rfl) hb3 ?_
                        simp only [Act.put, List.setIfInBounds_toArray, List.set_cons_zero, List.set_cons_succ]
                        refine step_store_to 7 (U3.setCell ⟨w.heap.size + 1 + 1, 3, none⟩ (.slice wa (s.kids.length + 1) wd)) rfl (by kernel_rfl) rfl (by rfl) 24 (.tmp 90) (.tmp 89) rfl (.pointer (some ⟨w.heap.size + 1 + 1, 3, none⟩)) (.slice wa (s.kids.length + 1) wd) rfl rfl (storeSl24 _ _ _ _ _ _ _ hx3.cells.k3 hx3.cells.f3) HU4.out.below ?_
                        refine wpAnyH_done (by kernel_rfl) ?_ _
                        have HLN := hide (linvI HP.out hjc HF.out HX1.out HN1.out)
                        clear hx3 hb3 ho3 hg3
                        go_wp2
                        go_roundw
                        case rel => exact ⟨j + 1, _, _, _, _, _, _, _, by omega, by go_num, HLN.out, HU4.out⟩
                        case measure => simp [intOf]; omega
                      · have HU3 := hide (HU1.out.next (W' := U1.alloc (.cells #[.int .i64 (n1 : Int)] 3)) ((Below.refl _ _).alloc (Nat.le_refl _) _))
                        refine op_to 88 (.slice (some ⟨U1.heap.size, 0, none⟩) 1 1) (U1.alloc (.cells #[.int .i64 (n1 : Int)] 3)) rfl rfl (by rfl) (op_build24 _ _ (.tmp 87) rfl _ rfl _) ⟨HU3.out.below, ?_⟩
                        simp only [Act.put, List.setIfInBounds_toArray, List.set_cons_zero, List.set_cons_succ]
                        refine step_to 1 85 (pi) _ rfl (by kernel_rfl) rfl (by rfl) (op_load _ _ 24 (.tmp 84) rfl (.pointer (some ⟨_, _, none⟩)) _ rfl (run_loadAny _ _ _ 24 _ Try.isAgg24 HU3.out.m.cells.k3)) HU3.out.below ?_
                        simp only [Act.put, List.setIfInBounds_toArray, List.set_cons_zero, List.set_cons_succ]
                        refine step_append_row 5 89 rfl (by kernel_rfl) rfl rfl (.tmp 85) (.tmp 88) 24 rfl (w.heap.size + 1 + 1 + 1) 3 (.int .i64 0) 1 8 Try.underlying24 Try.info3 rfl (by omega) (pi) s.kids.length (intCells s.kids) (.slice (some ⟨U1.heap.size, 0, none⟩) 1 1) 1 (intCells [(n1 : Int)]) rfl rfl HU3.out.oi (row_int U1 _) rfl (one_intCells _) (by first | omega | decide) (by first | omega | decide) HU3.out.sz ?_
                        intro u3 U3 ho3 hg3
                        obtain ⟨wa, wd, ew⟩ := owns_len ho3
                        subst ew
                        have HU4 := hide (HU3.out.appI ho3 hg3)
                        obtain ⟨hb3, hx3⟩ := HU3.out.gr HU3.out.oi (by decide) hg3
                        refine ⟨hb3, ?_⟩
                        simp only [Act.put, List.setIfInBounds_toArray, List.set_cons_zero, List.set_cons_succ]
                        refine step_to 6 90 (.pointer (some ⟨w.heap.size + 1 + 1, 3, none⟩)) U3 rfl (by kernel_rfl) rfl (by rfl) (by rfl) hb3 ?_
                        simp only [Act.put, List.setIfInBounds_toArray, List.set_cons_zero, List.set_cons_succ]
                        refine step_store_to 7 (U3.setCell ⟨w.heap.size + 1 + 1, 3, none⟩ (.slice wa (s.kids.length + 1) wd)) rfl (by kernel_rfl) rfl (by rfl) 24 (.tmp 90) (.tmp 89) rfl (.pointer (some ⟨w.heap.size + 1 + 1, 3, none⟩)) (.slice wa (s.kids.length + 1) wd) rfl rfl (storeSl24 _ _ _ _ _ _ _ hx3.cells.k3 hx3.cells.f3) HU4.out.below ?_
                        refine wpAnyH_done (by kernel_rfl) ?_ _
                        have HLN := hide (linvI HP.out hjc HF.out HX1.out HN1.out)
                        clear hx3 hb3 ho3 hg3
                        go_wp2
                        go_roundw
                        case rel => exact ⟨j + 1, _, _, _, _, _, _, _, by omega, by go_num, HLN.out, HU4.out⟩
                        case measure => simp [intOf]; omega
              · have hje : j = cc := by omega
                subst hje
                go_upto_region 16 with fail
                clear hrb
                as_aux_lemma =>
                  have HENC : Hid (Calls Try.prog 18 #[.agg #[.bool false, pk, pv, pi, .int .i64 (nx : Int)]] wr (EncEnd wr (ndOf false nx s))) := rencode_any (N := ndOf false nx s) HD.out.rdat (HF.out.fits (by omega) false nx)
                  have hbad : wr.cell? ⟨w.heap.size + 1, 1, none⟩ = some (.bool false) := by rw [cell_row HD.out.r]; rfl
                  obtain ⟨k0, k1, k2, k3, k4, f0, f1, f2, f3, f4⟩ := HD.out.m.cells
                  go_wp2_with fail
                  refine HENC.out.mono ?_
                  clear k0 k1 k2 k3 k4 f0 f1 f2 f3 f4 hbad HENC
                  rintro e W8 hE
                  have HD8 := hide (HD.out.next hE.below)
                  have hbad : W8.cell? ⟨w.heap.size + 1, 1, none⟩ = some (.bool false) := by rw [cell_row HD8.out.r]; rfl
                  have hpb := HPB.out s HP.out
                  have hpi := page_is HL.out hpb
                  rcases hE.out with ⟨hsd, rfl⟩ | ⟨hsd, hsz, rfl⟩ | ⟨hsd, hsz, v8, rfl, ho8⟩
                  · have HNO : Hid (dcf bs = none) := by rw [Hid, HDC.out, HP.out]; exact fin_no (by rw [hsd]; rfl)
                    clear hE HD hpb hpi hsd
                    obtain ⟨l0, l1, l2, l3, l4, i0, i1, i2, i3, i4⟩ := HD8.out.y.cells
                    go_wp2
                    refine bodyPost_ret (v := .tuple #[.agg #[.bool false, .slice none 0 0, .slice none 0 0, .slice none 0 0, .int .i64 0], .bool false]) (results_ct Try.results20 _ _ w.heap.size 43 #[.bool false, .slice none 0 0, .slice none 0 0, .slice none 0 0, .int .i64 0] (0, 0) _ rfl (HD8.out.y.setAll _ _ _ _ _).heap Try.underlying43 rfl Try.size43) rfl ?_
                    exact RcEnd.no HNO.out (below_setAll HD8.out.below w.heap.size _ _ _ _ _ (Nat.le_refl _) HD8.out.below.size)
                  · exfalso
                    have := length_body (sd_of hsd).mat
                    have := hpi.2
                    omega
                  · obtain ⟨va, vc, ev⟩ := owns_len ho8
                    subst ev
                    have hcv1 : (convert 28 9 (.slice va (ndOf false nx s).page.length vc)).run Try.prog W8 = .ok (.string (strOf (ndOf false nx s).page)) W8 := run_str (Row.of_owns ho8)
                    have hcv2 : (convert 28 9 (.slice (some ⟨g0, o0, none⟩) 504 pc)).run Try.prog W8 = .ok (.string (strOf bs)) W8 := run_str (HSB.out.belowW HD8.out.below)
                    have hst1 := strOf_toList (ndOf false nx s).page
                    have hst2 := strOf_toList bs
                    cases hng : noughtsB s.rest with
                    | false =>
                      have HNO : Hid (dcf bs = none) := by rw [Hid, HDC.out, HP.out]; exact fin_no (by rw [hng, Bool.and_false])
                      have hne : ((strOf (ndOf false nx s).page).toList == (strOf bs).toList) = false := by
                        rw [hst1, hst2, beq_eq_false_iff_ne]
                        intro e
                        rw [hpi.1.1 e] at hng
                        cases hng
                      clear hE HD hpb hpi hsd hsz ho8 hng hst1 hst2
                      generalize strOf (ndOf false nx s).page = sp at *
                      generalize strOf bs = sb at *
                      generalize (ndOf false nx s).page.length = pn at *
                      obtain ⟨l0, l1, l2, l3, l4, i0, i1, i2, i3, i4⟩ := HD8.out.y.cells
                      go_wp2
                      refine bodyPost_ret (v := .tuple #[.agg #[.bool false, .slice none 0 0, .slice none 0 0, .slice none 0 0, .int .i64 0], .bool false]) (results_ct Try.results20 _ _ w.heap.size 43 #[.bool false, .slice none 0 0, .slice none 0 0, .slice none 0 0, .int .i64 0] (0, 0) _ rfl (HD8.out.y.setAll _ _ _ _ _).heap Try.underlying43 rfl Try.size43) rfl ?_
                      exact RcEnd.no HNO.out (below_setAll HD8.out.below w.heap.size _ _ _ _ _ (Nat.le_refl _) HD8.out.below.size)
                    | true =>
                      have HYE : Hid (dcf bs = some (ndOf false nx s)) := by rw [Hid, HDC.out, HP.out]; exact fin_yes (by rw [hng, hsd]; rfl)
                      have hne : ((strOf (ndOf false nx s).page).toList == (strOf bs).toList) = true := by
                        rw [hst1, hst2, beq_iff_eq]
                        exact hpi.1.2 hng
                      clear hE HD hpb hpi hsd hsz ho8 hng hst1 hst2
                      generalize strOf (ndOf false nx s).page = sp at *
                      generalize strOf bs = sb at *
                      generalize (ndOf false nx s).page.length = pn at *
                      obtain ⟨a1, c1, e1⟩ := owns_len HD8.out.ok
                      obtain ⟨a2, c2, e2⟩ := owns_len HD8.out.ov
                      obtain ⟨a3, c3, e3⟩ := owns_len HD8.out.oi
                      generalize s.keys.length = l1 at e1
                      generalize s.vals.length = l2 at e2
                      generalize s.kids.length = l3 at e3
                      subst e1 e2 e3
                      obtain ⟨k0, k1, k2, k3, k4, f0, f1, f2, f3, f4⟩ := HD8.out.m.cells
                      obtain ⟨l0, l1', l2', l3', l4, i0, i1, i2, i3, i4⟩ := HD8.out.y.cells
                      go_wp2
                      refine bodyPost_ret (v := .tuple #[.agg #[.bool false, .slice a1 l1 c1, .slice a2 l2 c2, .slice a3 l3 c3, .int .i64 (nx : Int)], .bool true]) (results_ct Try.results20 _ _ w.heap.size 43 #[.bool false, .slice a1 l1 c1, .slice a2 l2 c2, .slice a3 l3 c3, .int .i64 (nx : Int)] (0, 0) _ rfl (HD8.out.y.setAll _ _ _ _ _).heap Try.underlying43 rfl Try.size43) rfl ?_
                      exact RcEnd.yes (N := ndOf false nx s) HYE.out (below_setAll HD8.out.below w.heap.size _ _ _ _ _ (Nat.le_refl _) HD8.out.below.size) (HD8.out.rdat' _ _ _ _ _)
      · have HNO : Hid (dcf bs = none) := dcf_not (fun e => by rw [HKF.out] at e; rcases e.2 with e | e; exact h1 e; exact h2 e)
        have hz1 : ((kn : Int) != 1) = true := by simp; omega
        have hz2 : ((kn : Int) != 2) = true := by simp; omega
        clear h1 h2 HKF HSS HSB hcB hcut
        go_enter Try.func20, Try.ntmps20
        go_upto_region 1 with fail
        generalize w.alloc (.cells #[.bool false, .slice none 0 0, .slice none 0 0, .slice none 0 0, .int .i64 0] 43) = W0 at *
        obtain ⟨l0, l1, l2, l3, l4, i0, i1, i2, i3, i4⟩ := HY0.out.cells
        go_wp2
        refine bodyPost_ret (v := .tuple #[.agg #[.bool false, .slice none 0 0, .slice none 0 0, .slice none 0 0, .int .i64 0], .bool false]) (results_ct Try.results20 _ _ w.heap.size 43 #[.bool false, .slice none 0 0, .slice none 0 0, .slice none 0 0, .int .i64 0] (0, 0) _ rfl (HY0.out.setAll _ _ _ _ _).heap Try.underlying43 rfl Try.size43) rfl ?_
        exact RcEnd.no HNO.out (below_setAll HBY.out w.heap.size _ _ _ _ _ (Nat.le_refl _) HBY.out.size)
  · have HNO : Hid (dcf bs = none) := dcf_not (fun e => h504 e.1)
    have hq : (((bs.length : Nat) : Int) != 504) = true := by simp; omega
    clear h h504
    generalize bs.length = n at *
    go_enter Try.func20, Try.ntmps20
    go_upto_region 1 with fail
    generalize w.alloc (.cells #[.bool false, .slice none 0 0, .slice none 0 0, .slice none 0 0, .int .i64 0] 43) = W0 at *
    obtain ⟨l0, l1, l2, l3, l4, i0, i1, i2, i3, i4⟩ := HY0.out.cells
    go_wp2
    refine bodyPost_ret (v := .tuple #[.agg #[.bool false, .slice none 0 0, .slice none 0 0, .slice none 0 0, .int .i64 0], .bool false]) (results_ct Try.results20 _ _ w.heap.size 43 #[.bool false, .slice none 0 0, .slice none 0 0, .slice none 0 0, .int .i64 0] (0, 0) _ rfl (HY0.out.setAll _ _ _ _ _).heap Try.underlying43 rfl Try.size43) rfl ?_
    exact RcEnd.no HNO.out (below_setAll HBY.out w.heap.size _ _ _ _ _ (Nat.le_refl _) HBY.out.size)
end Go.Proofs.Ytjcobejaldfibaa
