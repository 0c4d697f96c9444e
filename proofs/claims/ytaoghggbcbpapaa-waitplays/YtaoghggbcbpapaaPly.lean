/- WaitPlays's walk. -/
import Derived.Test.YtaoghggbcbpapaaRfr
namespace Go.Proofs.Ytaoghggbcbpapaa
open Go.RowKit
set_option linter.unusedVariables false
set_option linter.unusedSimpArgs false

theorem CycIs.det {E : List (Int × Int)} {a : Int} {C D : List Int} (h : CycIs E a C) (k : CycIs E a D) : C = D := rising_ext h.rise k.rise (fun x => (h.just x).trans (k.just x).symm)
theorem VicIs.det {E : List (Int × Int)} {a x y : Int} {p q : Bool} (h : VicIs E a x p) (k : VicIs E a y q) : x = y ∧ p = q := by
  rcases h with ⟨h1, h2, h3⟩ | ⟨h1, h2, h3⟩ <;> rcases k with ⟨k1, k2, k3⟩ | ⟨k1, k2, k3⟩
  · exact ⟨by rw [h2, k2], by rw [h1, k1]⟩
  · exact absurd k2.round h3
  · exact absurd h2.round k3
  · have := h3 y k2
    have := k3 x h2
    exact ⟨by omega, by rw [h1, k1]⟩
set_option maxHeartbeats 8000000 in
set_option maxRecDepth 100000 in
theorem plays_walk (a : Option Addr) (n c : Nat) (fr : Int) (w : World) (h1 : n ≤ 9223372036854775807) (h2 : n ≤ 1000000 → ∃ E : List (Int × Int), E.length = n ∧ EdgesAt w a E) :
    Calls Try.prog 4 #[.slice a n c, .int .i64 fr] w fun e w' => e = .returned (.bool true) ∧ Below w.heap.size w w' := by
  have HAW : Hid (∀ W, Calls Try.prog 7 #[] W fun e w' => e = .returned (.bool true) ∧ Below W.heap.size W w') := awake_any
  by_cases hbig : 40 < n
  · clear h2
    go_enter Try.func4, Try.ntmps4
    go_wp2_with (go_at_call 7; refine (HAW.out _).mono ?_; rintro e w1 ⟨rfl, hb1⟩)
    go_ret
    exact ⟨rfl, hb1⟩
  · obtain ⟨E, hn, hE⟩ := h2 (by omega)
    have HN := hide hn
    have HE := hide hE
    have HTO : Hid (∀ W, Below w.heap.size w W → Calls Try.prog 12 #[.slice a n c] W fun e w' => ∃ a1 c1, e = .returned (.slice a1 n c1) ∧ EdgesAt w' a1 E ∧ Below W.heap.size W w') := fun W hb => by
      have h := to_any (c := c) (HE.out.belowW hb)
      rw [HN.out] at h
      refine h.mono ?_
      rintro e w' ⟨v, rfl, h2, h3⟩
      have h2' : w'.ownsRow W.heap.size 52 2 v E.length (ecells E) := by rw [HN.out]; exact h2
      obtain ⟨a1, c1, rfl, he⟩ := EdgesAt.of_owns h2' (by rw [HN.out]; omega)
      rw [HN.out]
      exact ⟨a1, c1, rfl, he, h3⟩
    have HCY : Hid (Calls Try.prog 10 #[.slice a n c, .int .i64 fr] w fun e w' => ∃ (v : Value) (C : List Int), e = .returned v ∧ w'.ownsRow w.heap.size 3 1 v C.length (C.map icell) ∧ CycIs E fr C ∧ C.length ≤ 2000000 ∧ Below w.heap.size w w') := by
      have h := cycle_any (c := c) HE.out fr
      rw [HN.out] at h
      exact h
    have HRCY : Hid (∀ W a1 c1, EdgesAt W a1 E → Calls Try.prog 11 #[.slice a1 n c1, .int .i64 fr] W fun e w' => ∃ (v : Value) (C : List Int), e = .returned v ∧ w'.ownsRow W.heap.size 3 1 v C.length (C.map icell) ∧ CycIs E fr C ∧ C.length ≤ 1000000 ∧ Below W.heap.size W w') := fun W a1 c1 he => by
      have h := rcycle_any (c := c1) he fr
      rw [HN.out] at h
      exact h
    have HVI : Hid (∀ W, Below w.heap.size w W → Calls Try.prog 8 #[.slice a n c, .int .i64 fr] W fun e w' => ∃ v ok, e = .returned (.tuple #[.int .i64 v, .bool ok]) ∧ VicIs E fr v ok ∧ Below W.heap.size W w') := fun W hb => by
      have h := victim_any (c := c) (HE.out.belowW hb) fr
      rw [HN.out] at h
      exact h
    have HRVI : Hid (∀ W a1 c1, EdgesAt W a1 E → Calls Try.prog 13 #[.slice a1 n c1, .int .i64 fr] W fun e w' => ∃ v ok, e = .returned (.tuple #[.int .i64 v, .bool ok]) ∧ VicIs E fr v ok ∧ Below W.heap.size W w') := fun W a1 c1 he => by
      have h := rvictim_any (c := c1) he fr
      rw [HN.out] at h
      exact h
    obtain ⟨G, hG⟩ : ∃ G, without E fr = G := ⟨_, rfl⟩
    have hGl : G.length ≤ 1000000 := by rw [← hG]; exact Nat.le_trans (without_len E fr) (by rw [HN.out]; omega)
    obtain ⟨gl, hgl⟩ : ∃ gl, G.length = gl := ⟨_, rfl⟩
    have HGL := hide hgl
    have HWO : Hid (∀ W, Below w.heap.size w W → Calls Try.prog 15 #[.slice a n c, .int .i64 fr] W fun e w' => ∃ a1 c1, e = .returned (.slice a1 gl c1) ∧ EdgesAt w' a1 G ∧ Below W.heap.size W w') := fun W hb => by
      have h := without_any (c := c) (HE.out.belowW hb) fr
      rw [HN.out, hG] at h
      refine h.mono ?_
      rintro e w' ⟨v, rfl, h2, h3⟩
      obtain ⟨a1, c1, rfl, he⟩ := EdgesAt.of_owns h2 hGl
      rw [HGL.out]
      exact ⟨a1, c1, rfl, he, h3⟩
    have HRWO : Hid (∀ W a1 c1, EdgesAt W a1 E → Calls Try.prog 16 #[.slice a1 n c1, .int .i64 fr] W fun e w' => ∃ a1 c1, e = .returned (.slice a1 gl c1) ∧ EdgesAt w' a1 G ∧ Below W.heap.size W w') := fun W a1 c1 he => by
      have h := rwithout_any (c := c1) he fr
      rw [HN.out, hG] at h
      refine h.mono ?_
      rintro e w' ⟨v, rfl, h2, h3⟩
      obtain ⟨a2, c2, rfl, he⟩ := EdgesAt.of_owns h2 hGl
      rw [HGL.out]
      exact ⟨a2, c2, rfl, he, h3⟩
    have HFR : Hid (∀ W, Below w.heap.size w W → Calls Try.prog 9 #[.slice a n c] W fun e w' => ∃ (a1 : Option Addr) (c1 fl : Nat) (F : List (Int × Int)), e = .returned (.slice a1 fl c1) ∧ F.length = fl ∧ EdgesAt w' a1 F ∧ FreeIs E F ∧ Below W.heap.size W w') := fun W hb => by
      have h := free_any (c := c) (HE.out.belowW hb)
      rw [HN.out] at h
      refine h.mono ?_
      rintro e w' ⟨v, F, rfl, h2, h3, h4⟩
      obtain ⟨a1, c1, rfl, he⟩ := EdgesAt.of_owns h2 (Nat.le_trans h3.len (by rw [HN.out]; omega))
      exact ⟨a1, c1, F.length, F, rfl, rfl, he, h3, h4⟩
    have HRFR : Hid (∀ W a1 c1, EdgesAt W a1 E → Calls Try.prog 17 #[.slice a1 n c1] W fun e w' => ∃ (a2 : Option Addr) (c2 fl : Nat) (F : List (Int × Int)), e = .returned (.slice a2 fl c2) ∧ F.length = fl ∧ EdgesAt w' a2 F ∧ FreeIs E F ∧ Below W.heap.size W w') := fun W a1 c1 he => by
      have h := rfree_any (c := c1) he
      rw [HN.out] at h
      refine h.mono ?_
      rintro e w' ⟨a2, c2, F, rfl, h2, h3, h4⟩
      exact ⟨a2, c2, F.length, F, rfl, rfl, h2, h3, h4⟩
    have HSA : Hid (∀ W a1 c1 a2 c2 (F : List (Int × Int)) fl, F.length = fl → EdgesAt W a1 F → EdgesAt W a2 F → Calls Try.prog 14 #[.slice a1 fl c1, .slice a2 fl c2] W fun e w' => e = .returned (.bool true) ∧ Below W.heap.size W w') := fun W a1 c1 a2 c2 F fl hl he1 he2 => by
      have h := same_any (c := c1) (d := c2) he1 he2
      rw [hl] at h
      exact h
    clear h2 hn hE h1 hgl hG
    go_enter Try.func4, Try.ntmps4
    go_upto_region 4 with (go_at_call 10; refine HCY.out.mono ?_; rintro e w1 ⟨v1, C, rfl, hr1, hC1, hl1, hb1⟩)
    have HR1 := hide hr1
    have HC1 := hide hC1
    have HB1 := hide hb1
    clear hr1 hC1 hb1 HCY
    go_upto_region 5 with (first
      | (go_at_call 12; refine (HTO.out _ HB1.out).mono ?_; rintro e w2 ⟨a2, c2, rfl, he2, hb2⟩; have HE2 := hide he2; have HB2 : Hid (Below w.heap.size w w2) := bt HB1.out (Nat.le_refl _) hb2; have HR2 := hide (owns_below HR1.out hb2 (Nat.le_refl _)); clear he2 hb2)
      | (go_at_call 11; refine (HRCY.out _ _ _ HE2.out).mono ?_; rintro e w3 ⟨v3, C3, rfl, hr3, hC3, hl3, hb3⟩))
    have hCC : C3 = C := hC3.det HC1.out
    subst hCC
    have HR3 := hide hr3
    have HB3 : Hid (Below w.heap.size w w3) := bt HB2.out (Nat.le_refl _) hb3
    have HR3a : Hid (w3.ownsRow w.heap.size 3 1 v1 C3.length (C3.map icell)) := owns_below HR2.out hb3 (Nat.le_refl _)
    clear hr3 hC3 hb3 HRCY HR1 HR2 HE2 hl1
    go_upto_region 6 with (go_at_call 8; refine (HVI.out _ HB3.out).mono ?_; rintro e w4 ⟨x4, ok4, rfl, hv4, hb4⟩)
    have HV4 := hide hv4
    have HB4 : Hid (Below w.heap.size w w4) := bt HB3.out (Nat.le_refl _) hb4
    have HR4a := hide (owns_below HR3a.out hb4 (Nat.le_refl _))
    have HR4 := hide (owns_below HR3.out hb4 (Nat.le_refl _))
    clear hv4 hb4 HVI HR3a HR3
    go_upto_region 7 with (first
      | (go_at_call 12; refine (HTO.out _ HB4.out).mono ?_; rintro e w5 ⟨a5, c5, rfl, he5, hb5⟩; have HE5 := hide he5; have HB5 : Hid (Below w.heap.size w w5) := bt HB4.out (Nat.le_refl _) hb5; have HW5 := hide hb5; clear he5 hb5)
      | (go_at_call 13; refine (HRVI.out _ _ _ HE5.out).mono ?_; rintro e w6 ⟨x6, ok6, rfl, hv6, hb6⟩))
    obtain ⟨e1, e2⟩ := hv6.det HV4.out
    subst e1 e2
    have HB6 : Hid (Below w.heap.size w w6) := bt HB5.out (Nat.le_refl _) hb6
    have hb46 : Below w4.heap.size w4 w6 := bt HW5.out (Nat.le_refl _) hb6
    have HR6a := hide (owns_below HR4a.out hb46 (Nat.le_refl _))
    have HR6 := hide (owns_below HR4.out hb46 (Nat.le_refl _))
    clear hv6 hb6 hb46 HRVI HR4a HR4 HV4 HE5 HW5
    obtain ⟨a7, c7, rfl, hcell7⟩ := int_cells (Row.of_owns HR6a.out)
    obtain ⟨a8, c8, rfl, hcell8⟩ := int_cells (Row.of_owns HR6.out)
    have HC7 := hide hcell7
    have HC8 := hide hcell8
    obtain ⟨cl, hcl⟩ : ∃ cl, C3.length = cl := ⟨_, rfl⟩
    have HCL := hide hcl
    rw [hcl] at hl3 ⊢
    clear hcell7 hcell8 hcl HR6a HR6
    have hq1 : ((cl : Int) != (cl : Int)) = false := by simp
    have hq2 : (x6 != x6) = false := by simp
    have hq3 : (ok6 != ok6) = false := by simp
    go_upto_if 70 with (first
      | (go_at_call 15; refine (HWO.out _ HB6.out).mono ?_; rintro e w7 ⟨a9, c9, rfl, he7, hb7⟩; have HE7 := hide he7; have HB7 : Hid (Below w.heap.size w w7) := bt HB6.out (Nat.le_refl _) hb7; have HT7 := hide hb7; clear he7 hb7)
      | (go_at_call 12; refine (HTO.out _ HB10.out).mono ?_; rintro e w11 ⟨a11, c11, rfl, he11, hb11⟩; have HE11 := hide he11; have HE11a := hide (HE10.out.belowW hb11); have HT11 : Hid (Below w6.heap.size w6 w11) := bt HT10.out (Nat.le_refl _) hb11; have HB11 : Hid (Below w.heap.size w w11) := bt HB10.out (Nat.le_refl _) hb11; clear he11 hb11)
      | (go_at_call 12; refine (HTO.out _ HB7.out).mono ?_; rintro e w8 ⟨a10, c10, rfl, he8, hb8⟩; have HE8 := hide he8; have HE8a := hide (HE7.out.belowW hb8); have HT8 : Hid (Below w6.heap.size w6 w8) := bt HT7.out (Nat.le_refl _) hb8; clear he8 hb8)
      | (go_at_call 16; refine (HRWO.out _ _ _ HE8.out).mono ?_; rintro e w9 ⟨a12, c12, rfl, he9, hb9⟩; have HE9 := hide he9; have HE9a := hide (HE8a.out.belowW hb9); have HT9 : Hid (Below w6.heap.size w6 w9) := bt HT8.out (Nat.le_refl _) hb9; clear he9 hb9)
      | (go_at_call 14; refine (HSA.out _ _ _ _ _ F11 _ HFL11.out HE12a.out HE12.out).mono ?_; rintro e w13 ⟨rfl, hb13⟩; have HT13 : Hid (Below w6.heap.size w6 w13) := bt HT12.out (Nat.le_refl _) hb13; clear hb13)
      | (go_at_call 14; refine (HSA.out _ _ _ _ _ G _ HGL.out HE9a.out HE9.out).mono ?_; rintro e w9' ⟨rfl, hb9'⟩; have HT9' : Hid (Below w6.heap.size w6 w9') := bt HT9.out (Nat.le_refl _) hb9'; have HB9' : Hid (Below w.heap.size w w9') := bt HB6.out (Nat.le_refl _) HT9'.out; clear hb9')
      | (go_at_call 9; refine (HFR.out _ HB9'.out).mono ?_; rintro e w10 ⟨a13, c13, fl, F10, rfl, hfl10, he10, hF10, hb10⟩; have HE10 := hide he10; have HF10 := hide hF10; have HFL10 := hide hfl10; have HT10 : Hid (Below w6.heap.size w6 w10) := bt HT9'.out (Nat.le_refl _) hb10; have HB10 : Hid (Below w.heap.size w w10) := bt HB9'.out (Nat.le_refl _) hb10; clear he10 hF10 hfl10 hb10)
      | (go_at_call 17; refine (HRFR.out _ _ _ HE11.out).mono ?_; rintro e w12 ⟨a14, c14, fl2, F11, rfl, hfl11, he12, hF11, hb12⟩; have hFF : F11 = F10 := hF11.det HF10.out; subst hFF; have hfe : fl2 = fl := hfl11.symm.trans HFL10.out; subst hfe; have HE12 := hide he12; have HE12a := hide (HE11a.out.belowW hb12); have HFL11 := hide hfl11; have HT12 : Hid (Below w6.heap.size w6 w12) := bt HT11.out (Nat.le_refl _) hb12; clear he12 hF11 hfl11 hb12))
    clear hq1 hq2 hq3
    have HB13 : Hid (Below w.heap.size w w13) := bt HB6.out (Nat.le_refl _) HT13.out
    have HC7' : Hid (∀ (i : Nat) (x : Int), C3[i]? = some x → ∃ g o, a7 = some ⟨g, o, none⟩ ∧ g < w13.heap.size ∧ w13.cell? ⟨g, o + i, none⟩ = some (.int .i64 x)) := fun i x hx => by
      obtain ⟨g, o, e, hg, hc⟩ := HC7.out i x hx
      exact ⟨g, o, e, Nat.lt_of_lt_of_le hg HT13.out.size, (HT13.out.cell (p := ⟨g, o + i, none⟩) hg).trans hc⟩
    have HC8' : Hid (∀ (i : Nat) (x : Int), C3[i]? = some x → ∃ g o, a8 = some ⟨g, o, none⟩ ∧ g < w13.heap.size ∧ w13.cell? ⟨g, o + i, none⟩ = some (.int .i64 x)) := fun i x hx => by
      obtain ⟨g, o, e, hg, hc⟩ := HC8.out i x hx
      exact ⟨g, o, e, Nat.lt_of_lt_of_le hg HT13.out.size, (HT13.out.cell (p := ⟨g, o + i, none⟩) hg).trans hc⟩
    go_wp2
    go_loopw [11] (fun i wr => ∃ k : Nat, k ≤ cl ∧ i = .int .i64 k ∧ Below w13.heap.size w13 wr) (fun i _ => cl - (intOf i).toNat)
    case atStart => exact ⟨0, by omega, rfl, Below.refl _ _⟩
    case round =>
      obtain ⟨k, hk, rfl, hB⟩ := hrel
      have HB := hide hB
      clear hB
      by_cases hlt : k < cl
      · obtain ⟨x, hx⟩ : ∃ x, C3[k]? = some x := ⟨_, List.getElem?_eq_getElem (by rw [HCL.out]; exact hlt)⟩
        obtain ⟨g1, o1, ea1, hg1, hc1⟩ := HC7'.out k x hx
        obtain ⟨g2, o2, ea2, hg2, hc2⟩ := HC8'.out k x hx
        subst ea1 ea2
        have hd1 : ∀ m, (wr.drewN m).cell? ⟨g1, o1 + k, none⟩ = some (.int .i64 x) := fun m => (HB.out.cell (p := ⟨g1, o1 + k, none⟩) hg1).trans hc1
        have hd2 : ∀ m, (wr.drewN m).cell? ⟨g2, o2 + k, none⟩ = some (.int .i64 x) := fun m => (HB.out.cell (p := ⟨g2, o2 + k, none⟩) hg2).trans hc2
        have hq : (x != x) = false := by simp
        clear hx hc1 hc2
        go_upto_region 12 with fail
        go_quiet (fail)
        go_wp2
        go_roundw
        case rel => exact ⟨k + 1, by omega, by go_num, below_drewN' HB.out _⟩
        case measure => simp [intOf]; omega
      · go_wp2_with (go_at_call 7; refine (HAW.out _).mono ?_; rintro e w14 ⟨rfl, hb14⟩)
        go_ret
        exact ⟨rfl, bt HB13.out (Nat.le_refl _) (bt HB.out (Nat.le_refl _) hb14)⟩
end Go.Proofs.Ytaoghggbcbpapaa
