/- The walk of the law RingLasts: it returns true and writes nothing that was there. -/
import Derived.Test.YtkkmkcobmjdblaaLastsPlain
import Derived.Deep.CutBlock
import Derived.Deep.DeepCutAuto
namespace Go.Proofs.Ytkkmkcobmjdblaa
open Go.RowKit
set_option linter.unusedVariables false
set_option linter.unusedSimpArgs false

set_option maxHeartbeats 1500000 in
set_option maxRecDepth 100000 in
theorem lasts_walk (a0 : Option Addr) (len0 cap0 : Nat) (B : Nat → List UInt8) (a1 : Option Addr) (len1 cap1 : Nat) (z1 : List Int) (a2 : Option Addr) (len2 cap2 : Nat) (z2 : List Bool) (a3 : Option Addr) (len3 cap3 : Nat) (z3 : List Bool) (w : World)
    (w0 : RowsIn w a0 len0 B) (w1 : IsInts w a1 len1 cap1 z1) (w2 : IsBools w a2 len2 cap2 z2) (w3 : IsBools w a3 len3 cap3 z3) :
    Calls Try.prog 5 #[.slice a0 len0 cap0, .slice a1 len1 cap1, .slice a2 len2 cap2, .slice a3 len3 cap3] w fun e w' => e = .returned (.bool true) ∧ Below w.heap.size w w' := by
  have W0 := hide w0
  have W1 := hide w1
  have W2 := hide w2
  have W3 := hide w3
  have hlen := w0.1
  have hlen1 := w1.1
  have hlen2 := w2.2.1
  have hlen3 := w3.2.1
  clear w0 w1 w2 w3
  go_enter Try.func5, Try.ntmps5
  go_wp2_with fail
  refine (b_new 40 w (by omega) (by omega)).mono ?_
  rintro e w1 ⟨p, rfl, hD1⟩
  have hI1 : LastsInv 0 0 [] (Dv.fresh 40) := ⟨by simpa using inv_fresh 40 3 20 (by omega) (by omega), by simp, by simp, by simp, fresh_well 40 (by omega) (by omega), by simp [Dv.fresh], rfl⟩
  generalize Dv.fresh 40 = D1 at *
  go_wp2_with fail
  go_loopw [11, 12, 13] (fun st al i wr => ∃ (k s : Nat) (all : List UInt8) (D : Dv), k ≤ len0 ∧ k ≤ 15 ∧ i = .int .i64 k ∧ st = .int .i64 s ∧ Held wr al all ∧ (∀ b, al.ownBlock = some b → w.heap.size ≤ b) ∧ DevX w wr p al.ownBlock.toList D ∧ LastsInv k s all D) (fun _ _ i _ => 16 - (intOf i).toNat)
  case atStart => exact ⟨0, 0, [], D1, by omega, by omega, rfl, rfl, .inl ⟨rfl, rfl⟩, fun b hb => by simp [Value.ownBlock] at hb, hD1, hI1⟩
  case round =>
    clear hD1 hI1
    obtain ⟨k, s, all, D, hk, hk15, rfl, rfl, hal, hab, hD, hI⟩ := hrel
    by_cases hgo : k < len0 ∧ k < 15
    · obtain ⟨ao, ac, hav⟩ := hal.len
      subst hav
      have hsl := hI.stLe
      have hsr := hI.room
      have hll := hI.len
      have hop := b_open (xs := (Value.slice ao all.length ac).ownBlock.toList) 3 20 s hD hI.well.live (by rw [hI.L]; omega) (by rw [hI.W]; simp) (by omega) (by omega) (by omega)
      rw [lasts_opened hI] at hop
      have HOP := hide hop
      have HAL := hide hal
      have HAB := hide hab
      have HI := hide hI
      clear hop hal hab hD hI
      obtain ⟨m, hm⟩ : ∃ m, all.length = m := ⟨_, rfl⟩
      have HM := hide hm
      rw [hm] at HOP HAL HAB hsl hsr hll ⊢
      clear hm
      obtain ⟨hlt, hlt15⟩ := hgo
      obtain ⟨b, o, ai, ci, rfl, hbs, hcw, hslw, hlX⟩ := W0.out.2 k hlt
      obtain ⟨X, hX⟩ : ∃ X, B k = X := ⟨_, rfl⟩
      rw [hX] at hcw hslw hlX
      have HCW := hide hcw
      have HSL := hide hslw
      clear hX hcw hslw
      go_wp2_with fail
      refine HOP.out.mono ?_
      rintro e w2 ⟨q, rfl, hB2, hK2⟩
      have HEN := hide (b_end hB2)
      have hc2 : w2.cell? ⟨b, o + k, none⟩ = some (.slice ai X.length ci) := (hB2.below.cell (p := ⟨b, o + k, none⟩) hbs).trans HCW.out
      by_cases hbig : 3000 < X.length
      · have HAW := hide (awake_true w2)
        have HBB := hide hB2.below
        clear hB2 hK2 HOP
        go_wp2_with (first
          | (go_at_call 10; refine HEN.out.mono ?_; rintro e w3 ⟨rfl, hw3⟩; have hw3 := hw3.symm; subst hw3)
          | (go_at_call 11; refine HAW.out.mono ?_; rintro e w3 ⟨rfl, hb3⟩; have HB3 := hide hb3; clear hb3))
        go_ret
        exact ⟨rfl, HBB.out.trans (HB3.out.mono HBB.out.size)⟩
      · have hX3 : X.length ≤ 3000 := by omega
        have HAL2 : Hid (Held w2 (.slice ao m ac) all) := Held.kept HAL.out hK2
        have HB2 : Hid (Both w w2 q p (Value.slice ao m ac).ownBlock.toList ⟨3, 20, s, m, all.drop s, false⟩ D) := hB2
        have HTL : Hid ((⟨3, 20, s, m, all.drop s, false⟩ : Rg).tail = m) := by
          show s + (all.drop s).length = m
          rw [List.length_drop, HM.out]
          omega
        have hms : (m : Int) - (s : Int) = ((m - s : Nat) : Int) := by omega
        clear hB2 hK2 HOP hbig
        go_wp2_with (first
          | (go_at_call 10; refine HEN.out.mono ?_; rintro e w3 ⟨rfl, hw3⟩; have hw3 := hw3.symm; subst hw3)
          | fail)
        have hrd := b_read s (m - s) HB2.out (Nat.le_refl _) (by rw [HTL.out]; omega)
        refine hrd.mono ?_
        rintro e w5 ⟨gx, rfl, hgx, hcx, hb5⟩
        have hcx : w5.heap[gx]? = some (.cells (secCells (((all.drop s).drop (s - s)).take (m - s))).toArray 5 (0, 0)) := hcx
        have hYl : (all.drop s).length = m - s := by rw [List.length_drop, HM.out]
        have hYe : ((all.drop s).drop (s - s)).take (m - s) = all.drop s := by
          rw [Nat.sub_self, List.drop_zero]
          exact List.take_of_length_le (by omega)
        rw [hYe] at hcx
        have hB5 := HB2.out.belowW hb5
        have hH5 : Held w5 (.slice ao m ac) all := Held.stay HAL2.out hb5.size (fun k hk => hb5.block k (Held.lt HAL2.out k hk))
        have hcutv := cut_sl (w := w5) (ao := ao) (c := ac) (hs := all) (by rw [HM.out]; exact hH5) s m hsl (by rw [HM.out]; omega)
        have hTe : (all.drop s).take (m - s) = all.drop s := List.take_of_length_le (by omega)
        rw [hTe] at hcutv
        have sx := fun nn => run_str (w := w5.drewN nn) (ao := some ⟨gx, 0, none⟩) (n := m - s) (c := m - s) (bs := all.drop s) (block_sl (w := w5) hcx hYl) hYl
        have sy := fun nn => run_str (w := w5.drewN nn) (ao := cutAt ao ac s) (n := m - s) (c := ac - s) (bs := all.drop s) hcutv hYl
        generalize strOf (all.drop s) = S5 at *
        have hcut := fun w => run_cut_from w ao m ac s hsl
        have HH5 := hide hH5
        have HB5 := hide hB5
        clear hrd hcx hYe hB5 hH5 hcutv hTe hgx hb5 hYl HEN hc2 HAL2 HB2
        go_wp2
        go_quiet (fail)
        have hB6 := HB5.out.drewN nq
        have HH6 : Hid (Held (w5.drewN nq) (.slice ao m ac) all) := HH5.out
        generalize w5.drewN nq = w6 at *
        have hc6 : w6.cell? ⟨b, o + k, none⟩ = some (.slice ai X.length ci) := (hB6.below.cell (p := ⟨b, o + k, none⟩) hbs).trans HCW.out
        have hsl6 := HSL.out.below hB6.below (Nat.le_refl _)
        have hrm : (⟨3, 20, s, m, all.drop s, false⟩ : Rg).room = (s / 118 + 19) * 118 - m := by
          unfold Rg.room
          rw [HTL.out]
          rfl
        clear sx sy hcut hms HB5 HH5
        by_cases hfit : X.length ≤ (s / 118 + 19) * 118 - m
        · have HAP := hide (b_append (bs := X) hB6 rfl (by rw [hrm]; exact hfit) hsl6)
          clear hB6 hsl6 hrm
          go_upto_if 108 with (first
            | (go_at_call 12; refine HAP.out.mono ?_; rintro e w7 ⟨rfl, hB7, hK7⟩; have HB7 := hide hB7; have HK7 := hide hK7; clear hB7 hK7)
            | fail)
          have hXr : all.length + X.length ≤ (s / 118 + 19) * 118 := by rw [HM.out]; omega
          have HXR := hide hXr
          have HB8 : Hid (Both w w7 q p (Value.slice ao m ac).ownBlock.toList (lastsR s all X) (D.lit D.fuse)) := by
            have hh := HB7.out
            unfold lastsR
            rw [HM.out]
            exact hh
          have HH8 : Hid (Held w7 (.slice ao m ac) all) := Held.kept HH6.out HK7.out
          clear HB7 HK7 hc6 HH6 hXr HAP
          go_cut [12] (fun al wx => ∃ (all2 : List UInt8) (D2 : Dv), Held wx al all2 ∧ (∀ b, al.ownBlock = some b → w.heap.size ≤ b) ∧ DevX w wx p al.ownBlock.toList D2 ∧ LastsInv (k + 1) s all2 D2)
          case first =>
            go_upto_if 112 with fail
            go_cut [] (fun wx => ∃ f : Int, -9223372036854775808 ≤ f ∧ f ≤ 9223372036854775807 ∧ Both w wx q p (Value.slice ao m ac).ownBlock.toList (lastsR s all X) (D.lit f) ∧ Held wx (.slice ao m ac) all)
            case first =>
              as_aux_lemma =>
                by_cases hfz : k < len1
                · obtain ⟨b1, o1, rfl, hb1, hc1, hz1, hz2⟩ := W1.out.2 k hfz
                  have hcf : w7.cell? ⟨b1, o1 + k, none⟩ = some (.int .i64 (z1.getD k 0)) := (HB8.out.below.cell (p := ⟨b1, o1 + k, none⟩) hb1).trans hc1
                  obtain ⟨z, hz⟩ : ∃ z, z1.getD k 0 = z := ⟨_, rfl⟩
                  rw [hz] at hcf hz1 hz2
                  clear hz hc1
                  have HFU := hide (bb_fuse z HB8.out hz1 hz2)
                  go_wp2_with (first | (go_at_call 22; refine HFU.out.mono ?_; rintro e w8 ⟨rfl, hB9, hK9⟩; have HB9 := hide hB9; have HK9 := hide hK9; clear hB9 hK9))
                  go_meet
                  case rel => exact ⟨z, hz1, hz2, HB9.out, Held.kept HH8.out HK9.out⟩
                · have hd1 : decide ((k : Int) < (len1 : Int)) = false := by simp; omega
                  go_wp2
                  go_meet
                  case rel => exact ⟨D.fuse, HI.out.well.wf.lo, HI.out.well.wf.hi, HB8.out, HH8.out⟩
            case rest =>
              as_aux_lemma =>
                obtain ⟨f, hf1, hf2, hB9, hH9⟩ := hcut
                have HFL := hide (lasts_flush HI.out f hf1 hf2 hX3 HXR.out hB9)
                have HH9 := hide hH9
                clear hH9 hB9 hf1 hf2 HB8 HH8
                go_wp2_with fail
                refine HFL.out.mono ?_
                rintro e w9 ⟨G, D9, rfl, hD9, hK9, hW9, hcr9⟩
                have HH10 : Hid (Held w9 (.slice ao m ac) all) := Held.kept HH9.out hK9
                have hcs := b_crash a2 cap2 z2 hD9 hW9 (by rw [W2.out.1]; exact hlen2) (keep_of W2.out hD9.below)
                rw [W2.out.1] at hcs
                have HCS := hide hcs
                have HCR := hide hcr9
                clear hcs hD9 hK9 hW9 hcr9 HFL HH9
                go_wp2_with fail
                refine HCS.out.mono ?_
                rintro e w10 ⟨rfl, hD10, hK10⟩
                have HH11 : Hid (Held w10 (.slice ao m ac) all) := Held.kept HH10.out hK10
                have hor := HCR.out z2 hD10.wf
                obtain ⟨m4, hm4⟩ : ∃ m4, (all ++ X).length = m4 := ⟨_, rfl⟩
                have HM4 := hide hm4
                have hsum : (m : Int) + (X.length : Int) = (m4 : Int) := by rw [← hm4, List.length_append, HM.out]; omega
                have hm4b : m4 ≤ 100000 := by omega
                have hwr : IntKind.i64.wrap (m4 : Int) = (m4 : Int) := by rw [IntKind.wrap_i64]; omega
                clear HCS HCR hK10 HH10 hm4
                generalize D9.crashed z2 = C at *
                rcases hor with hL | ⟨hG, hXne, hL⟩
                · have hop := b_open (xs := (Value.slice ao m ac).ownBlock.toList) 3 20 s hD10 hL.well.live (by rw [hL.L]; omega) (by rw [hL.W]; simp) (by omega) (by omega) (by omega)
                  rw [lasts_opened hL, HM4.out] at hop
                  have HOP := hide hop
                  have HL := hide hL
                  clear hop hD10 hL
                  go_wp2_with fail
                  refine HOP.out.mono ?_
                  rintro e w11 ⟨q2, rfl, hB11, hK11⟩
                  have HH12 : Hid (Held w11 (.slice ao m ac) all) := Held.kept HH11.out hK11
                  have hc11 : w11.cell? ⟨b, o + k, none⟩ = some (.slice ai X.length ci) := (hB11.below.cell (p := ⟨b, o + k, none⟩) hbs).trans HCW.out
                  have HEN2 := hide (fun nn => b_end (hB11.drewN nn))
                  have HB11 := hide hB11
                  clear hB11 hK11 HOP HH11
                  go_wp2
                  go_quiet (first | (go_at_call 10; exact Calls.quiet_of_same (HEN2.out _)))
                  have HB12 := hide (HB11.out.drewN nq)
                  have HH13 : Hid (Held (w11.drewN nq) (.slice ao m ac) all) := HH12.out
                  have HSL12 := hide (HSL.out.below HB12.out.below (Nat.le_refl _))
                  have HBD : Hid (all.length + X.length ≤ 100000000) := by show _ ≤ _; rw [HM.out]; omega
                  have HGR : Hid (∀ (w4 : World) (v4 : Value), Held w4 v4 (all ++ X) → (w11.drewN nq).grownBy w4 (Value.slice ao m ac).ownBlock → (∀ j, v4.ownBlock = some j → (Value.slice ao m ac).ownBlock = some j ∨ (w11.drewN nq).heap.size ≤ j) → DevX w w4 p v4.ownBlock.toList C ∧ (∀ j, v4.ownBlock = some j → w.heap.size ≤ j)) := fun w4 v4 hh hg hf => by
                    refine ⟨(HB12.out.grow HAB.out hg hf hh.lt).devX, fun j hj => ?_⟩
                    rcases hf j hj with h1 | h1
                    · exact HAB.out j h1
                    · exact Nat.le_trans HB12.out.below.size h1
                  clear HB11 HH12
                  go_wp2_with (first
                    | (refine wpList_append_held rfl (.tmp 161) (.tmp 165) rfl _ _ all X rfl rfl HH13.out HSL12.out HBD.out ?_; intro v4 w4 hh4 hg4 hf4; obtain ⟨hD4, hab4⟩ := HGR.out w4 v4 hh4 hg4 hf4; have HH4 := hide hh4; have HD4 := hide hD4; have HAB4 := hide hab4; clear hh4 hg4 hf4 hD4 hab4)
                    | fail)
                  go_meet
                  case rel => exact ⟨all ++ X, C, HH4.out, HAB4.out, HD4.out, HL.out⟩
                · have hXl : 1 ≤ X.length := by
                    rcases X with _ | ⟨x, r⟩
                    · exact absurd rfl hXne
                    · simp
                  have hop := b_open (xs := (Value.slice ao m ac).ownBlock.toList) 3 20 s hD10 hL.well.live (by rw [hL.L]; omega) (by rw [hL.W]; simp) (by omega) (by omega) (by omega)
                  rw [lasts_opened hL, HM.out] at hop
                  have HOP := hide hop
                  have HL := hide hL
                  have hne : ((m : Int) == (m4 : Int)) = false := beq_eq_false_iff_ne.2 (by omega)
                  have hg0 : (G == 0) = false := beq_eq_false_iff_ne.2 hG
                  have HHG := hide hG
                  clear hop hD10 hL hXne hG
                  go_wp2_with fail
                  refine HOP.out.mono ?_
                  rintro e w11 ⟨q2, rfl, hB11, hK11⟩
                  have HH12 : Hid (Held w11 (.slice ao m ac) all) := Held.kept HH11.out hK11
                  have hc11 : w11.cell? ⟨b, o + k, none⟩ = some (.slice ai X.length ci) := (hB11.below.cell (p := ⟨b, o + k, none⟩) hbs).trans HCW.out
                  have HEN2 := hide (fun nn => b_end (hB11.drewN nn))
                  have HB11 := hide hB11
                  clear hB11 hK11 HOP HH11
                  go_wp2
                  go_quiet (first | (go_at_call 10; exact Calls.quiet_of_same (HEN2.out _)))
                  go_wp2_with (first | (go_at_call 10; refine (HEN2.out _).mono ?_; rintro e w12 ⟨rfl, hw12⟩; have hw12 := hw12.symm; subst hw12))
                  go_meet
                  case rel => exact ⟨all, C, HH12.out, HAB.out, (HB11.out.drewN nq).devX, HL.out⟩
          case rest =>
            as_aux_lemma =>
              obtain ⟨all2, D2, hH2, hab2, hDX, hI2⟩ := hcut
              obtain ⟨ao2, ac2, hv2⟩ := hH2.len
              subst hv2
              have HH2 := hide hH2
              have HAB2 := hide hab2
              have HDX := hide hDX
              have HI2 := hide hI2
              clear hH2 hab2 hDX hI2 HAL HAB HM HTL
              by_cases ht3 : k < len3
              · obtain ⟨b3, o3, rfl, hb3, hc3⟩ := W3.out.2.2 k ht3
                have hcc : wc.cell? ⟨b3, o3 + k, none⟩ = some (.bool (z3.getD k false)) := (HDX.out.below.cell (p := ⟨b3, o3 + k, none⟩) hb3).trans hc3
                clear hc3
                cases hz : z3.getD k false with
                | true =>
                  rw [hz] at hcc
                  clear hz
                  go_wp2
                  go_roundw
                  case rel => exact ⟨k + 1, all2.length, all2, D2, by omega, by omega, by go_num, rfl, HH2.out, HAB2.out, HDX.out, lasts_trim HI2.out⟩
                  case measure => simp [intOf]; omega
                | false =>
                  rw [hz] at hcc
                  clear hz
                  go_wp2
                  go_roundw
                  case rel => exact ⟨k + 1, s, all2, D2, by omega, by omega, by go_num, rfl, HH2.out, HAB2.out, HDX.out, HI2.out⟩
                  case measure => simp [intOf]; omega
              · have hd3 : decide ((k : Int) < (len3 : Int)) = false := by simp; omega
                go_wp2
                go_roundw
                case rel => exact ⟨k + 1, s, all2, D2, by omega, by omega, by go_num, rfl, HH2.out, HAB2.out, HDX.out, HI2.out⟩
                case measure => simp [intOf]; omega
        · have hfull : (s / 118 + 19) * 118 - m < X.length := by omega
          obtain ⟨rm, hrme⟩ : ∃ rm, (s / 118 + 19) * 118 - m = rm := ⟨_, rfl⟩
          rw [hrme] at hfull hfit hrm
          have HAF := hide (b_full (ao := ai) (n := X.length) (c := ci) hB6 rfl (by rw [hrm]; exact hfull))
          have HRM := hide (fun nn => b_room (hB6.drewN nn))
          rw [hrm] at HRM
          have HB7 := hide hB6
          have HH7 := hide HH6.out
          have hge : decide ((X.length : Int) ≤ (rm : Int)) = false := by simp; omega
          clear hB6 hsl6 hrm hrme
          go_upto_if 108 with (first
            | (go_at_call 12; refine HAF.out.mono ?_; rintro e w7 ⟨rfl, m7, rfl⟩)
            | fail)
          go_cut [12] (fun al wx => ∃ (all2 : List UInt8) (D2 : Dv), Held wx al all2 ∧ (∀ b, al.ownBlock = some b → w.heap.size ≤ b) ∧ DevX w wx p al.ownBlock.toList D2 ∧ LastsInv (k + 1) s all2 D2)
          case first =>
            have hc7 : (w6.drewN m7).cell? ⟨b, o + k, none⟩ = some (.slice ai X.length ci) := hc6
            have HRM7 := hide (fun nn => HRM.out (m7 + nn))
            have HB8 := hide (HB7.out.drewN m7)
            have HH8 : Hid (Held (w6.drewN m7) (.slice ao m ac) all) := HH6.out
            have HRM8 : Hid (∀ nn, Calls Try.prog 30 #[.pointer (some ⟨q, 0, none⟩)] ((w6.drewN m7).drewN nn) fun e w' => e = .returned (.int .i64 (rm : Nat)) ∧ ∃ j, w' = ((w6.drewN m7).drewN nn).drewN j) := fun nn => by
              have := HRM7.out nn
              rw [← World.drewN_drewN] at this
              exact this
            generalize w6.drewN m7 = w7 at *
            clear HRM7 HRM HAF HB7 HH7 hc6
            go_wp2
            go_quiet (first | (go_at_call 30; exact Calls.quiet_of (HRM8.out _)))
            go_wp2
            go_meet
            case rel => exact ⟨all, D, HH8.out, HAB.out, (HB8.out.drewN nq).devX, lasts_more HI.out⟩
          case rest =>
            as_aux_lemma =>
              obtain ⟨all2, D2, hH2, hab2, hDX, hI2⟩ := hcut
              obtain ⟨ao2, ac2, hv2⟩ := hH2.len
              subst hv2
              have HH2 := hide hH2
              have HAB2 := hide hab2
              have HDX := hide hDX
              have HI2 := hide hI2
              clear hH2 hab2 hDX hI2 HAL HAB HM HTL
              by_cases ht3 : k < len3
              · obtain ⟨b3, o3, rfl, hb3, hc3⟩ := W3.out.2.2 k ht3
                have hcc : wc.cell? ⟨b3, o3 + k, none⟩ = some (.bool (z3.getD k false)) := (HDX.out.below.cell (p := ⟨b3, o3 + k, none⟩) hb3).trans hc3
                clear hc3
                cases hz : z3.getD k false with
                | true =>
                  rw [hz] at hcc
                  clear hz
                  go_wp2
                  go_roundw
                  case rel => exact ⟨k + 1, all2.length, all2, D2, by omega, by omega, by go_num, rfl, HH2.out, HAB2.out, HDX.out, lasts_trim HI2.out⟩
                  case measure => simp [intOf]; omega
                | false =>
                  rw [hz] at hcc
                  clear hz
                  go_wp2
                  go_roundw
                  case rel => exact ⟨k + 1, s, all2, D2, by omega, by omega, by go_num, rfl, HH2.out, HAB2.out, HDX.out, HI2.out⟩
                  case measure => simp [intOf]; omega
              · have hd3 : decide ((k : Int) < (len3 : Int)) = false := by simp; omega
                go_wp2
                go_roundw
                case rel => exact ⟨k + 1, s, all2, D2, by omega, by omega, by go_num, rfl, HH2.out, HAB2.out, HDX.out, HI2.out⟩
                case measure => simp [intOf]; omega
    · have HAW := hide (fun (x : World) => awake_true x)
      have HBB := hide hD.below
      clear hal hab hD hI
      by_cases hs2 : k < len0
      · have hs1 : decide ((k : Int) < 15) = false := by simp; omega
        clear hgo
        go_wp2_with (first | (go_at_call 11; refine (HAW.out _).mono ?_; rintro e w4 ⟨rfl, hb4⟩; have HB4 := hide hb4; clear hb4))
        go_ret
        exact ⟨rfl, HBB.out.trans (HB4.out.mono HBB.out.size)⟩
      · have hs3 : decide ((k : Int) < (len0 : Int)) = false := by simp; omega
        clear hgo
        go_wp2_with (first | (go_at_call 11; refine (HAW.out _).mono ?_; rintro e w4 ⟨rfl, hb4⟩; have HB4 := hide hb4; clear hb4))
        go_ret
        exact ⟨rfl, HBB.out.trans (HB4.out.mono HBB.out.size)⟩
end Go.Proofs.Ytkkmkcobmjdblaa
