/- The walk of the law RingRounds: it returns true and writes nothing that was there. -/
import Derived.Test.YtkkmkcobmjdblaaRInv
namespace Go.Proofs.Ytkkmkcobmjdblaa
open Go.RowKit
set_option linter.unusedVariables false
set_option linter.unusedSimpArgs false

/-- Behind k rounds: the device tells the newest part of the stream. -/
structure RoundsInv (k st : Nat) (all : List UInt8) (D : Dv) : Prop where
  inv : Inv (rdOf D 2 8) st (all.drop st)
  stLe : st ≤ all.length
  few : all.length ≤ st + 255
  len : all.length ≤ k * 300
  well : D.well
  L : D.L.length = 12
  W : D.W = []
theorem rounds_opened {k st : Nat} {all : List UInt8} {D : Dv} (h : RoundsInv k st all D) : Rg.opened D 2 8 st = ⟨2, 8, st, all.length, all.drop st, false⟩ := by
  have h1 := h.stLe
  have h2 := h.few
  have e := opened_eq h.inv (by rw [List.length_drop]; omega)
  rw [e]
  have : st + (all.drop st).length = all.length := by rw [List.length_drop]; omega
  rw [this]
theorem rounds_next {k st : Nat} {all X : List UInt8} {D D' : Dv} (h : RoundsInv k st all D) (hX : X.length ≤ 300) (st' : Nat) (h1 : st ≤ st') (h2 : st' ≤ (all ++ X).length) (h3 : (all ++ X).length ≤ st' + 255)
    (hw : (⟨2, 8, st, all.length, all.drop st ++ X, false⟩ : Rg).wf) (hD' : D'.well) (hL : D'.L.length = D.L.length) (hW : D'.W = [])
    (e1 : (⟨2, 8, st, all.length, all.drop st ++ X, false⟩ : Rg).fin ≠ (⟨2, 8, st, all.length, all.drop st ++ X, false⟩ : Rg).tail → D' = ((⟨2, 8, st, all.length, all.drop st ++ X, false⟩ : Rg).flushD D).2)
    (e2 : (⟨2, 8, st, all.length, all.drop st ++ X, false⟩ : Rg).fin = (⟨2, 8, st, all.length, all.drop st ++ X, false⟩ : Rg).tail → D' = D) : RoundsInv (k + 1) st' (all ++ X) D' := by
  have a1 := h.stLe
  have a2 := h.few
  have ht : (⟨2, 8, st, all.length, all.drop st ++ X, false⟩ : Rg).tail = all.length + X.length := by
    show st + (all.drop st ++ X).length = _
    rw [List.length_append, List.length_drop]
    omega
  have hi := inv_flushed hw (all.drop st) X rfl (by show all.length = st + (all.drop st).length; rw [List.length_drop]; omega) h.inv h.well h.W (by rw [ht]; show (all.length + X.length - 1) / 118 + 1 < st / 118 + 8; omega) (by show 2 + 8 ≤ _; rw [h.L]; omega) e1 e2
  have hi2 := inv_trim hi st' h1 (by show st' ≤ st + (all.drop st ++ X).length; rw [List.length_append, List.length_drop]; rw [List.length_append] at h2; omega)
  have e3 : (all.drop st ++ X).drop (st' - st) = (all ++ X).drop st' := by
    rw [← List.drop_append_of_le_length h.stLe, List.drop_drop]
    congr 1
    omega
  have hi3 : Inv (rdOf D' 2 8) st' ((all ++ X).drop st') := by rw [← e3]; exact hi2
  exact ⟨hi3, h2, h3, by rw [List.length_append]; have := h.len; omega, hD', by rw [hL]; exact h.L, hW⟩

set_option maxHeartbeats 2000000 in
set_option maxRecDepth 100000 in
theorem rounds_walk (a0 : Option Addr) (len0 cap0 : Nat) (B : Nat → List UInt8) (n : Int) (w : World) (w0 : RowsIn w a0 len0 B) :
    Calls Try.prog 3 #[.slice a0 len0 cap0, .int .i64 n] w fun e w' => e = .returned (.bool true) ∧ Below w.heap.size w w' := by
  have W0 := hide w0
  have hlen := w0.1
  clear w0
  go_enter Try.func3, Try.ntmps3
  go_wp2_with fail
  refine (b_new 12 w (by omega) (by omega)).mono ?_
  rintro e w1 ⟨p, rfl, hD1⟩
  have hI1 : RoundsInv 0 0 [] (Dv.fresh 12) := ⟨by simpa using inv_fresh 12 2 8 (by omega) (by omega), by simp, by simp, by simp, fresh_well 12 (by omega) (by omega), by simp [Dv.fresh], rfl⟩
  generalize Dv.fresh 12 = D1 at *
  go_wp2_with fail
  go_loopw [7, 8, 9] (fun st al i wr => ∃ (k s : Nat) (all : List UInt8) (D : Dv), k ≤ len0 ∧ k ≤ 60 ∧ i = .int .i64 k ∧ st = .int .i64 s ∧ Held wr al all ∧ (∀ b, al.ownBlock = some b → w.heap.size ≤ b) ∧ DevX w wr p al.ownBlock.toList D ∧ RoundsInv k s all D) (fun _ _ i _ => 61 - (intOf i).toNat)
  case atStart => exact ⟨0, 0, [], D1, by omega, by omega, rfl, rfl, .inl ⟨rfl, rfl⟩, fun b hb => by simp [Value.ownBlock] at hb, hD1, hI1⟩
  case round =>
    clear hD1 hI1
    obtain ⟨k, s, all, D, hk, hk60, rfl, rfl, hal, hab, hD, hI⟩ := hrel
    obtain ⟨ao, ac, hav⟩ := hal.len
    subst hav
    have hsl := hI.stLe
    have hsf := hI.few
    have hll := hI.len
    have hop := b_open (xs := (Value.slice ao all.length ac).ownBlock.toList) 2 8 s hD hI.well.live (by rw [hI.L]; omega) (by rw [hI.W]; simp) (by omega) (by omega) (by omega)
    rw [rounds_opened hI] at hop
    have HOP := hide hop
    have HAL := hide hal
    have HAB := hide hab
    have HI := hide hI
    have HBW := hide hD.below
    clear hop hal hab hD hI
    obtain ⟨m, hm⟩ : ∃ m, all.length = m := ⟨_, rfl⟩
    have HM := hide hm
    rw [hm] at HOP HAL HAB hsl hsf hll ⊢
    clear hm
    by_cases hgo : k < len0 ∧ k < 60
    · obtain ⟨hlt, hlt60⟩ := hgo
      obtain ⟨b, o, ai, ci, rfl, hbs, hcw, hslw, hlX⟩ := W0.out.2 k hlt
      obtain ⟨X, hX⟩ : ∃ X, B k = X := ⟨_, rfl⟩
      rw [hX] at hcw hslw hlX
      have HCW := hide hcw
      have HSL := hide hslw
      clear hX hcw hslw
      go_wp2_with fail
      refine HOP.out.mono ?_
      rintro e w2 ⟨q, rfl, hB2, hK2⟩
      have HEN := hide (b_end hB2)
      have hc2 : w2.cell? ⟨b, o + k, none⟩ = some (.slice ai X.length ci) := (hB2.below.cell (p := ⟨b, o + k, none⟩) hbs).trans HCW.out
      have HAL2 : Hid (Held w2 (.slice ao m ac) all) := HAL.out.kept hK2
      by_cases hbig : 300 < X.length
      · have HAW := hide (awake_true w2)
        have HBB := hide hB2.below
        clear hB2 hK2 HOP
        go_wp2_with (first
          | (go_at_call 10; refine HEN.out.mono ?_; rintro e w3 ⟨rfl, hw3⟩; have hw3 := hw3.symm; subst hw3)
          | (go_at_call 11; refine HAW.out.mono ?_; rintro e w3 ⟨rfl, hb3⟩; have HB3 := hide hb3; clear hb3))
        go_ret
        exact ⟨rfl, HBB.out.trans (HB3.out.mono HBB.out.size)⟩
      · have hsl2 := HSL.out.below hB2.below (Nat.le_refl _)
        have HAP := hide (b_append (bs := X) hB2 rfl (by
          show X.length ≤ (s / 118 + 8 - 1) * 118 - (s + (all.drop s).length)
          rw [List.length_drop, HM.out]
          omega) hsl2)
        clear hB2 hK2 HOP hsl2
        go_wp2_with (first
          | (go_at_call 10; refine HEN.out.mono ?_; rintro e w3 ⟨rfl, hw3⟩; have hw3 := hw3.symm; subst hw3)
          | fail)
        refine HAP.out.mono ?_
        rintro e w3 ⟨rfl, hB3, hK3⟩
        have hX3 : X.length ≤ 300 := by omega
        have hB3 : Both w w3 q p (Value.slice ao m ac).ownBlock.toList ⟨2, 8, s, m, all.drop s ++ X, false⟩ D := hB3
        have hc3 : w3.cell? ⟨b, o + k, none⟩ = some (.slice ai X.length ci) := (hB3.below.cell (p := ⟨b, o + k, none⟩) hbs).trans HCW.out
        have HAL3 : Hid (Held w3 (.slice ao m ac) all) := HAL2.out.kept hK3
        have HSL3 := hide (HSL.out.below hB3.below (Nat.le_refl _))
        have HB3 := hide hB3
        obtain ⟨m4, hm4⟩ : ∃ m4, (all ++ X).length = m4 := ⟨_, rfl⟩
        have HM4 := hide hm4
        have hm4e : m4 = m + X.length := by rw [← hm4, List.length_append, HM.out]
        have hm4b : m4 ≤ 20000 := by omega
        have hs4 : s ≤ m4 := by omega
        have HBD : Hid (all.length + X.length ≤ 100000000) := by show _ ≤ _; rw [HM.out]; omega
        have HGR : Hid (∀ (w4 : World) (v4 : Value), Held w4 v4 (all ++ X) → w3.grownBy w4 (Value.slice ao m ac).ownBlock → (∀ j, v4.ownBlock = some j → (Value.slice ao m ac).ownBlock = some j ∨ w3.heap.size ≤ j) → Both w w4 q p v4.ownBlock.toList ⟨2, 8, s, m, all.drop s ++ X, false⟩ D ∧ (∀ j, v4.ownBlock = some j → w.heap.size ≤ j)) := fun w4 v4 hh hg hf => by
          refine ⟨HB3.out.grow HAB.out hg hf hh.lt, fun j hj => ?_⟩
          rcases hf j hj with h1 | h1
          · exact HAB.out j h1
          · exact Nat.le_trans HB3.out.below.size h1
        have HTL : Hid ((⟨2, 8, s, m, all.drop s ++ X, false⟩ : Rg).tail = m4) := by
          show s + (all.drop s ++ X).length = m4
          rw [List.length_append, List.length_drop, HM.out]
          omega
        have hms : (m4 : Int) - (s : Int) = ((m4 - s : Nat) : Int) := by omega
        have HDR : Hid ((all ++ X).drop s = all.drop s ++ X) := List.drop_append_of_le_length (by rw [HM.out]; exact hsl)
        have HWF3 := hide hB3.wf
        have HM4E := hide hm4e
        clear hm4e hB3 hK3 HAP HAL2 HEN hm4 hc2
        go_wp2_with (first
          | (refine wpList_append_held rfl (.tmp 63) (.tmp 67) rfl _ _ all X rfl rfl HAL3.out HSL3.out HBD.out ?_; intro v4 w4 hh4 hg4 hf4; obtain ⟨hB4, hab4⟩ := HGR.out w4 v4 hh4 hg4 hf4; obtain ⟨a4, c4, hv4⟩ := hh4.len; rw [HM4.out] at hv4; subst hv4; have HH4 := hide hh4; have HB4 := hide hB4; have HAB4 := hide hab4; clear hh4 hg4 hf4 hB4 hab4)
          | fail)
        have hm4e := HM4E.out
        have hrd := b_read s (m4 - s) HB4.out (Nat.le_refl _) (by rw [HTL.out]; omega)
        refine hrd.mono ?_
        rintro e w5 ⟨gx, rfl, hgx, hcx, hb5⟩
        have hcx : w5.heap[gx]? = some (.cells (secCells (((all.drop s ++ X).drop (s - s)).take (m4 - s))).toArray 5 (0, 0)) := hcx
        have hYe : ((all.drop s ++ X).drop (s - s)).take (m4 - s) = all.drop s ++ X := by
          rw [Nat.sub_self, List.drop_zero]
          refine List.take_of_length_le ?_
          rw [List.length_append, List.length_drop, HM.out]
          omega
        rw [hYe] at hcx
        have hYl : (all.drop s ++ X).length = m4 - s := by rw [List.length_append, List.length_drop, HM.out]; omega
        have hB5 := HB4.out.belowW hb5
        have hH5 : Held w5 (.slice a4 m4 c4) (all ++ X) := Held.stay HH4.out hb5.size (fun k hk => hb5.block k (Held.lt HH4.out k hk))
        have hcutv := cut_sl (w := w5) (ao := a4) (c := c4) (hs := all ++ X) (by rw [HM4.out]; exact hH5) s m4 hs4 (by rw [HM4.out]; omega)
        have hTe : ((all ++ X).drop s).take (m4 - s) = all.drop s ++ X := by
          rw [HDR.out]
          exact List.take_of_length_le (by omega)
        rw [hTe] at hcutv
        have sx := run_str (w := w5.drew) (ao := some ⟨gx, 0, none⟩) (n := m4 - s) (c := m4 - s) (bs := all.drop s ++ X) (block_sl (w := w5) hcx hYl) hYl
        have sy := run_str (w := w5.drew) (ao := cutAt a4 c4 s) (n := m4 - s) (c := c4 - s) (bs := all.drop s ++ X) hcutv hYl
        generalize strOf (all.drop s ++ X) = S5 at *
        have hcut := fun w => run_cut_from w a4 m4 c4 s hs4
        have HFL := hide (b_flush (hB5.drewN 1) HI.out.well (by rw [HI.out.L]; show 2 + 8 ≤ 12; omega) HI.out.W rfl)
        have HH5 := hide hH5
        clear hm4e hrd hcx hYe hB5 hH5 hcutv hTe hgx hb5 HB4 HH4 hYl HB3 HGR HAL3 HSL3
        go_wp2
        go_region_held (fun _ => True) (trivial)
          (first | (go_at_call 14; refine HFL.out.mono ?_; rintro e w6 ⟨rfl, D6, hB6, hK6, hw6, hl6, hW6, he6, hq6⟩))
        all_goals
          obtain ⟨kk, hkk⟩ : ∃ kk : Nat, n % 256 = (kk : Int) := ⟨(n % 256).toNat, by omega⟩
          have hkb : kk ≤ 255 := by omega
          have hand : bits .and .i64 n 255 = (kk : Int) := by rw [and255, hkk]
          obtain ⟨st, hst⟩ : ∃ st, max s (m4 - kk) = st := ⟨_, rfl⟩
          have hmx : (if (m4 : Int) - (kk : Int) > (s : Int) then (m4 : Int) - (kk : Int) else (s : Int)) = (st : Int) := by split <;> omega
          have HMX := hide hmx
          have hst1 : s ≤ st := by omega
          have hst2 : st ≤ m4 := by omega
          have hst3 : m4 ≤ st + 255 := by omega
          have HI6 : Hid (RoundsInv (k + 1) st (all ++ X) D6) := by
            have hmm := HM.out
            subst hmm
            exact rounds_next HI.out hX3 st hst1 (by rw [HM4.out]; exact hst2) (by rw [HM4.out]; exact hst3) HWF3.out hw6 hl6 hW6 he6 hq6
          have HH6 : Hid (Held w6 (.slice a4 m4 c4) (all ++ X)) := Held.kept (w := w5.drewN 1) HH5.out hK6
          have HD6 := hide hB6.devX
          clear hkk hst hmx hw6 hl6 hW6 he6 hq6 hB6 hK6 sx sy hcut hms HFL HH5
          go_wp2_with (first
            | (refine wpList_max rfl (.tmp 95) (.tmp 100) #[3, 3] rfl _ _ (st : Int) rfl rfl HMX.out ?_)
            | fail)
          go_roundw
          case rel => exact ⟨k + 1, st, all ++ X, D6, by omega, by omega, by go_num, rfl, HH6.out, HAB4.out, HD6.out, HI6.out⟩
          case measure => simp [intOf]; omega
    · have HAW := hide (fun (x : World) => awake_true x)
      by_cases hs2 : k < len0
      · have hs1 : decide ((k : Int) < 60) = false := by simp; omega
        clear hgo
        go_wp2_with (first
          | (go_at_call 9; refine HOP.out.mono ?_; rintro e w2 ⟨q, rfl, hB2, hK2⟩; have HEN := hide (b_end hB2); have HBB := hide hB2.below; clear hB2 hK2)
          | (go_at_call 10; refine HEN.out.mono ?_; rintro e w3 ⟨rfl, hw3⟩; have hw3 := hw3.symm; subst hw3)
          | (go_at_call 11; refine (HAW.out _).mono ?_; rintro e w4 ⟨rfl, hb4⟩; have HB4 := hide hb4; clear hb4))
        go_ret
        exact ⟨rfl, HBB.out.trans (HB4.out.mono HBB.out.size)⟩
      · have hs3 : decide ((k : Int) < (len0 : Int)) = false := by simp; omega
        clear hgo
        go_wp2_with (first
          | (go_at_call 9; refine HOP.out.mono ?_; rintro e w2 ⟨q, rfl, hB2, hK2⟩; have HEN := hide (b_end hB2); have HBB := hide hB2.below; clear hB2 hK2)
          | (go_at_call 10; refine HEN.out.mono ?_; rintro e w3 ⟨rfl, hw3⟩; have hw3 := hw3.symm; subst hw3)
          | (go_at_call 11; refine (HAW.out _).mono ?_; rintro e w4 ⟨rfl, hb4⟩; have HB4 := hide hb4; clear hb4))
        go_ret
        exact ⟨rfl, HBB.out.trans (HB4.out.mono HBB.out.size)⟩
end Go.Proofs.Ytkkmkcobmjdblaa
