/- The walk of the law RingRooms: it returns true and writes nothing that was there. -/
import Derived.Test.YtkkmkcobmjdblaaRIn
namespace Go.Proofs.Ytkkmkcobmjdblaa
open Go.RowKit
set_option linter.unusedVariables false
set_option linter.unusedSimpArgs false

/-- Behind k rounds. -/
structure RoomsInv (n k : Nat) (R : Rg) (D : Dv) : Prop where
  fr : R.fr = 0
  n : R.n = n
  failed : R.failed = false
  done : R.fin = R.tail
  few : R.tail ≤ k * 4000
  well : D.well
  len : D.L.length = 30
  W : D.W = []
theorem rooms_appended {R : Rg} (bs : List UInt8) (h : bs.length ≤ R.room) : ({ R with held := R.held ++ bs } : Rg).room = R.room - bs.length ∧ ({ R with held := R.held ++ bs } : Rg).tail = R.tail + bs.length := by
  unfold Rg.room Rg.tail at *
  simp only [List.length_append]
  omega

set_option maxHeartbeats 2000000 in
set_option maxRecDepth 100000 in
theorem rooms_walk (a0 : Option Addr) (len0 cap0 : Nat) (B : Nat → List UInt8) (n : Int) (w : World) (w0 : RowsIn w a0 len0 B) :
    Calls Try.prog 6 #[.slice a0 len0 cap0, .int .i64 n] w fun e w' => e = .returned (.bool true) ∧ Below w.heap.size w w' := by
  by_cases hbad : n < 2 ∨ 30 < n
  · have hA := hide (awake_true w)
    by_cases h2 : n < 2
    · clear hbad
      go_enter Try.func6, Try.ntmps6
      go_wp2_with (first | (go_at_call 11; refine hA.out.mono ?_; rintro e w' ⟨rfl, hb⟩; have HB := hide hb; clear hb))
      go_ret
      exact ⟨rfl, HB.out⟩
    · have h30 : 30 < n := by omega
      clear hbad
      go_enter Try.func6, Try.ntmps6
      go_wp2_with (first | (go_at_call 11; refine hA.out.mono ?_; rintro e w' ⟨rfl, hb⟩; have HB := hide hb; clear hb))
      go_ret
      exact ⟨rfl, HB.out⟩
  · obtain ⟨N, rfl⟩ : ∃ N : Nat, n = N := ⟨n.toNat, by omega⟩
    have hN2 : 2 ≤ N := by omega
    have hN3 : N ≤ 30 := by omega
    have d1 : decide ((N : Int) < 2) = false := by simp; omega
    have d2 : decide ((30 : Int) < (N : Int)) = false := by simp; omega
    have W0 := hide w0
    have hlen := w0.1
    clear hbad w0
    go_enter Try.func6, Try.ntmps6
    go_wp2_with fail
    refine (b_new 30 w (by omega) (by omega)).mono ?_
    rintro e w1 ⟨p, rfl, hD1⟩
    have HO := hide (b_open (xs := []) 0 N 0 hD1 rfl (by simp [Dv.fresh]; omega) (by simp [Dv.fresh]) hN2 (by omega) (by omega))
    clear hD1
    go_wp2_with fail
    refine HO.out.mono ?_
    rintro e w2 ⟨q, rfl, hB2, _⟩
    have hI2 : RoomsInv N 0 (Rg.opened (Dv.fresh 30) 0 N 0) (Dv.fresh 30) := by
      refine ⟨rfl, rfl, rfl, rfl, ?_, fresh_well 30 (by omega) (by omega), by simp [Dv.fresh], rfl⟩
      show 0 + (found (Dv.fresh 30) 0 N 0).length ≤ _
      rw [fresh_found 30 0 N 0 hN2 (by omega)]
      simp
    generalize Rg.opened (Dv.fresh 30) 0 N 0 = R2 at *
    generalize Dv.fresh 30 = D2 at *
    clear HO d1 d2
    go_wp2_with fail
    go_loopw [9] (fun i wr => ∃ (k : Nat) (R : Rg) (D : Dv), k ≤ len0 ∧ k ≤ 40 ∧ i = .int .i64 k ∧ Both w wr q p [] R D ∧ RoomsInv N k R D) (fun i _ => 41 - (intOf i).toNat)
    case atStart => exact ⟨0, R2, D2, by omega, by omega, rfl, hB2, hI2⟩
    case round =>
      clear hB2 hI2
      obtain ⟨k, R, D, hk, hk40, rfl, hB, hI⟩ := hrel
      have HI := hide hI
      clear hI
      by_cases hgo : k < len0 ∧ k < 40
      · obtain ⟨hlt, hlt40⟩ := hgo
        obtain ⟨b, o, ai, ci, rfl, hbs, hcw, hslw, hll⟩ := W0.out.2 k hlt
        obtain ⟨X, hX⟩ : ∃ X, B k = X := ⟨_, rfl⟩
        rw [hX] at hcw hslw hll
        have hcell : wr.cell? ⟨b, o + k, none⟩ = some (.slice ai X.length ci) := (hB.below.cell (p := ⟨b, o + k, none⟩) hbs).trans hcw
        have HCW := hide hcw
        have HSL := hide hslw
        clear hX hcw hslw
        obtain ⟨rm, hrm⟩ : ∃ rm, R.room = rm := ⟨_, rfl⟩
        obtain ⟨tl, htl⟩ : ∃ tl, R.tail = tl := ⟨_, rfl⟩
        have hrmb : rm ≤ 4000 := by
          rw [← hrm]
          unfold Rg.room
          have := HI.out.n
          have := hB.wf.lo
          have := HI.out.done
          unfold Rg.tail at *
          omega
        have htlb : tl ≤ 160000 := by rw [← htl]; have := HI.out.few; omega
        have HR := hide (b_room hB)
        rw [hrm] at HR
        have HT := hide (fun m => b_tail (hB.drewN m))
        rw [htl] at HT
        go_wp2_with (first
          | (go_at_call 30; refine HR.out.mono ?_; rintro e w3 ⟨rfl, m3, rfl⟩)
          | (go_at_call 29; refine (HT.out _).mono ?_; rintro e w3 ⟨rfl, m4, rfl⟩)
          | fail)
        have hB3 := hB.drewN (m3 + m4)
        have hsl3 := HSL.out.below hB3.below (Nat.le_refl _)
        clear HR HT hB hcell
        by_cases hfit : X.length ≤ rm
        · have HAP := hide (b_append (bs := X) hB3 HI.out.failed (by rw [hrm]; exact hfit) hsl3)
          clear hB3 hsl3
          refine HAP.out.mono ?_
          rintro e w5 ⟨rfl, hB5, _⟩
          obtain ⟨e1, e2⟩ := rooms_appended X (by rw [hrm]; exact hfit)
          have hc5 : w5.cell? ⟨b, o + k, none⟩ = some (.slice ai X.length ci) := (hB5.below.cell (p := ⟨b, o + k, none⟩) hbs).trans HCW.out
          have hI5 : RoomsInv N (k + 1) { ({ R with held := R.held ++ X } : Rg) with fin := ({ R with held := R.held ++ X } : Rg).tail } D := by
            refine ⟨HI.out.fr, HI.out.n, HI.out.failed, rfl, ?_, HI.out.well, HI.out.len, HI.out.W⟩
            show ({ R with held := R.held ++ X } : Rg).tail ≤ _
            rw [e2]
            have := HI.out.few
            omega
          have hfrn : ({ R with held := R.held ++ X } : Rg).fr + ({ R with held := R.held ++ X } : Rg).n ≤ D.L.length := by
            show R.fr + R.n ≤ _
            rw [HI.out.fr, HI.out.n, HI.out.len]; omega
          have hf5 : ({ R with held := R.held ++ X } : Rg).failed = false := HI.out.failed
          rw [hrm] at e1
          rw [htl] at e2
          obtain ⟨R5, hR5⟩ : ∃ R5, ({ R with held := R.held ++ X } : Rg) = R5 := ⟨_, rfl⟩
          rw [hR5] at hB5 hI5 hfrn hf5 e1 e2
          clear hR5 HAP hrm htl
          obtain ⟨rm2, hrm2⟩ : ∃ rm2, rm - X.length = rm2 := ⟨_, rfl⟩
          obtain ⟨tl2, htl2⟩ : ∃ tl2, tl + X.length = tl2 := ⟨_, rfl⟩
          rw [hrm2] at e1
          rw [htl2] at e2
          have q1 : (rm : Int) - (X.length : Int) = (rm2 : Int) := by omega
          have q2 : (tl : Int) + (X.length : Int) = (tl2 : Int) := by omega
          have q3 : IntKind.i64.wrap (rm2 : Int) = (rm2 : Int) := by rw [IntKind.wrap_i64]; omega
          have q4 : IntKind.i64.wrap (tl2 : Int) = (tl2 : Int) := by rw [IntKind.wrap_i64]; omega
          have HR5 := hide (fun m => b_room (hB5.drewN m))
          have HT5 := hide (fun m => b_tail (hB5.drewN m))
          rw [e1] at HR5
          rw [e2] at HT5
          have HB5 := hide hB5
          have HI5 := hide hI5
          have HFR := hide hfrn
          have HF5 := hide hf5
          have HE2 := hide e2
          clear hB5 hI5 hfrn hf5 e1 e2 hrm2 htl2
          go_wp2
          go_quiet (first | (go_at_call 30; exact Calls.quiet_of (HR5.out _)) | (go_at_call 29; exact Calls.quiet_of (HT5.out _)))
          have hB6 := HB5.out.drewN nq
          have HFL := hide (b_flush hB6 HI.out.well HFR.out HI.out.W HF5.out)
          clear hB6 HR5 HT5 hc5 q1 q2 q3 q4
          go_wp2_with fail
          refine HFL.out.mono ?_
          rintro e w7 ⟨rfl, D7, hB7, _, hw7, hl7, hW7, _, _⟩
          have HEN := hide (b_end hB7)
          have HTA := hide (b_tail hB7)
          have HPE := hide (fun m => b_pending (hB7.drewN m))
          rw [show ({ R5 with fin := R5.tail } : Rg).fin = R5.tail from rfl, HE2.out] at HEN
          rw [show ({ R5 with fin := R5.tail } : Rg).tail = R5.tail from rfl, HE2.out] at HTA
          rw [hW7] at HPE
          have HB7 := hide hB7
          have HI7 : Hid (RoomsInv N (k + 1) { R5 with fin := R5.tail } D7) := ⟨HI5.out.fr, HI5.out.n, HI5.out.failed, HI5.out.done, HI5.out.few, hw7, hl7.trans HI.out.len, hW7⟩
          clear hB7 hw7 hl7 hW7 HFL HB5
          go_wp2_with (first
            | (go_at_call 10; refine HEN.out.mono ?_; rintro e w8 ⟨rfl, hw8⟩; have hw8 := hw8.symm; subst hw8)
            | (go_at_call 29; refine HTA.out.mono ?_; rintro e w8 ⟨rfl, m8, rfl⟩)
            | (go_at_call 33; refine (HPE.out _).mono ?_; rintro e w8 ⟨rfl, hw8⟩; have hw8 := hw8.symm; subst hw8))
          go_roundw
          case rel => exact ⟨k + 1, _, D7, by omega, by omega, by go_num, HB7.out.drewN m8, HI7.out⟩
          case measure => simp [intOf]; omega
        · have hfull : rm < X.length := by omega
          have HAF := hide (b_full (ao := ai) (n := X.length) (c := ci) hB3 HI.out.failed (by rw [hrm]; exact hfull))
          refine HAF.out.mono ?_
          rintro e w5 ⟨rfl, m5, rfl⟩
          have hB5 := hB3.drewN m5
          generalize (wr.drewN (m3 + m4)).drewN m5 = w5 at *
          have hc5 : w5.cell? ⟨b, o + k, none⟩ = some (.slice ai X.length ci) := (hB5.below.cell (p := ⟨b, o + k, none⟩) hbs).trans HCW.out
          have HT5 := hide (fun m => b_tail (hB5.drewN m))
          rw [htl] at HT5
          have HB5 := hide hB5
          have hnf : decide ((X.length : Int) ≤ (rm : Int)) = false := by simp; omega
          clear hB5 hB3 hsl3 HAF
          go_wp2
          go_quiet (first | (go_at_call 29; exact Calls.quiet_of (HT5.out _)))
          have hB6 := HB5.out.drewN nq
          have hfrn : R.fr + R.n ≤ D.L.length := by rw [HI.out.fr, HI.out.n, HI.out.len]; omega
          have HFL := hide (b_flush hB6 HI.out.well hfrn HI.out.W HI.out.failed)
          clear hB6 HT5 hc5 hfrn
          go_wp2_with fail
          refine HFL.out.mono ?_
          rintro e w7 ⟨rfl, D7, hB7, _, hw7, hl7, hW7, _, _⟩
          have e1 : ({ R with fin := R.tail } : Rg) = R := by have := HI.out.done; rw [← this]
          rw [e1] at hB7
          have HEN := hide (b_end hB7)
          have HTA := hide (b_tail hB7)
          have HPE := hide (fun m => b_pending (hB7.drewN m))
          have HE2 := hide (fun m => b_end (hB7.drewN m))
          rw [HI.out.done, htl] at HEN HE2
          rw [htl] at HTA
          rw [hW7] at HPE
          have hst : R.start ≤ tl := by rw [← htl]; unfold Rg.tail; omega
          have HTR := hide (fun m => b_trim tl (hB7.drewN m) hst (by rw [HI.out.done, htl]; omega) (by omega))
          obtain ⟨R8, hR8⟩ : ∃ R8, ({ R with start := tl, held := R.held.drop (tl - R.start) } : Rg) = R8 := ⟨_, rfl⟩
          have hh8 : (R.held.drop (tl - R.start)).length = 0 := by
            rw [List.length_drop]
            have : R.tail = R.start + R.held.length := rfl
            omega
          have ht8 : R8.tail = tl := by
            rw [← hR8]
            show tl + (R.held.drop (tl - R.start)).length = tl
            omega
          have hr8 : (N - 1) * 118 - 117 ≤ R8.room := by
            unfold Rg.room
            rw [ht8, ← hR8]
            show _ ≤ (tl / 118 + R.n - 1) * 118 - tl
            rw [HI.out.n]
            omega
          have hr8b : R8.room ≤ 100000 := by
            unfold Rg.room
            rw [ht8, ← hR8]
            show (tl / 118 + R.n - 1) * 118 - tl ≤ _
            rw [HI.out.n]
            omega
          have HI8 : Hid (RoomsInv N (k + 1) R8 D7) := by
            refine ⟨by rw [← hR8]; exact HI.out.fr, by rw [← hR8]; exact HI.out.n, by rw [← hR8]; exact HI.out.failed, ?_, ?_, hw7, hl7.trans HI.out.len, hW7⟩
            · rw [ht8, ← hR8]
              show R.fin = tl
              rw [HI.out.done, htl]
            · rw [ht8]
              have := HI.out.few
              omega
          rw [hR8] at HTR
          obtain ⟨rm8, hrm8⟩ : ∃ rm8, R8.room = rm8 := ⟨_, rfl⟩
          rw [hrm8] at hr8 hr8b
          have HRM := hide hrm8
          have hnl : decide ((rm8 : Int) < ((N : Int) - 1) * 118 - 117) = false := by simp; omega
          clear hw7 hl7 hW7 HFL HB5 hR8 hh8 ht8 e1 hrm8
          go_wp2_with (first
            | (go_at_call 10; refine HEN.out.mono ?_; rintro e w8 ⟨rfl, hw8⟩; have hw8 := hw8.symm; subst hw8)
            | (go_at_call 10; refine (HE2.out _).mono ?_; rintro e w8 ⟨rfl, hw8⟩; have hw8 := hw8.symm; subst hw8)
            | (go_at_call 29; refine HTA.out.mono ?_; rintro e w8 ⟨rfl, m8, rfl⟩)
            | (go_at_call 33; refine (HPE.out _).mono ?_; rintro e w8 ⟨rfl, hw8⟩; have hw8 := hw8.symm; subst hw8)
            | (go_at_call 20; refine (HTR.out _).mono ?_; rintro e w9 ⟨rfl, hB9, _⟩; have HR9 := hide (b_room hB9); rw [HRM.out] at HR9; have HB9 := hide hB9; clear hB9)
            | (go_at_call 30; refine HR9.out.mono ?_; rintro e w10 ⟨rfl, m10, rfl⟩))
          go_roundw
          case rel => exact ⟨k + 1, R8, D7, by omega, by omega, by go_num, HB9.out.drewN m10, HI8.out⟩
          case measure => simp [intOf]; omega
      · have HT := hide (b_tail hB)
        obtain ⟨tl, htl⟩ : ∃ tl, R.tail = tl := ⟨_, rfl⟩
        have htlb : tl ≤ 160000 := by rw [← htl]; have := HI.out.few; omega
        rw [htl] at HT
        have HTN : Hid (∀ m, Calls Try.prog 20 #[.pointer (some ⟨q, 0, none⟩), .int .i64 ((tl : Int) + 1)] (wr.drewN m) fun e w' => e = .returned (.int .i64 1) ∧ w' = wr.drewN m) := fun m => by
          have := b_trimNot (tl + 1) (hB.drewN m) (by rw [HI.out.done, htl]; omega)
          rw [show ((tl + 1 : Nat) : Int) = (tl : Int) + 1 by omega] at this
          exact this
        have HAW := hide (fun m => awake_true (wr.drewN m))
        have HB := hide hB.below
        clear hB htl
        by_cases hs2 : k < len0
        · have hs1 : decide ((k : Int) < 40) = false := by simp; omega
          clear hgo
          go_wp2_with (first
            | (go_at_call 29; refine HT.out.mono ?_; rintro e w3 ⟨rfl, m3, rfl⟩)
            | (go_at_call 20; refine (HTN.out _).mono ?_; rintro e w3 ⟨rfl, hw3⟩; have hw3 := hw3.symm; subst hw3)
            | (go_at_call 11; refine (HAW.out _).mono ?_; rintro e w4 ⟨rfl, hb4⟩; have HB4 := hide hb4; clear hb4))
          go_ret
          exact ⟨rfl, (HB.out.trans (below_drewN _ _ m3)).trans (HB4.out.mono HB.out.size)⟩
        · have hs3 : decide ((k : Int) < (len0 : Int)) = false := by simp; omega
          clear hgo
          go_wp2_with (first
            | (go_at_call 29; refine HT.out.mono ?_; rintro e w3 ⟨rfl, m3, rfl⟩)
            | (go_at_call 20; refine (HTN.out _).mono ?_; rintro e w3 ⟨rfl, hw3⟩; have hw3 := hw3.symm; subst hw3)
            | (go_at_call 11; refine (HAW.out _).mono ?_; rintro e w4 ⟨rfl, hb4⟩; have HB4 := hide hb4; clear hb4))
          go_ret
          exact ⟨rfl, (HB.out.trans (below_drewN _ _ m3)).trans (HB4.out.mono HB.out.size)⟩
end Go.Proofs.Ytkkmkcobmjdblaa
