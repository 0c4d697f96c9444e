/- The document's own file: Open. -/
import Derived.Test.YtkdlggobbkedmaaGWrite
namespace Go.Proofs.Ytkdlggobbkedmaa
open Go.RowKit
set_option linter.unusedVariables false
set_option linter.unusedSimpArgs false

theorem run_byte (u : World) (X : List UInt8) (k : Nat) (h : k < X.length) : (Instr.index 9 (.string (strOf X)) (.int .i64 (k : Int))).run Try.prog u = .ok (.int .u8 (X[k].toNat : Int)) u := by
  have hs : (strOf X).size = X.length := size_strOf X
  rw [run_index_string _ 9 _ _ _ Try.underlying9, dif_pos ⟨by omega, by rw [hs]; omega⟩]
  simp only [Int.toNat_natCast]
  rfl
section
variable {w : World} {p fr n : Nat} {fp : List Nat} {D : Dv}
set_option maxHeartbeats 1000000 in
theorem ropen_arg (a b : Int) (hD : RefAt w p fp D) (hwf : D.wf) (ha1 : -9223372036854775808 ≤ a) (ha2 : a ≤ 9223372036854775807) (hx : ¬ (1 ≤ b ∧ 0 ≤ a ∧ a + 5 + 4 * b ≤ (D.L.length : Int))) :
    Calls Try.prog 14 #[.pointer (some ⟨p, 0, none⟩), .int .i64 a, .int .i64 b] w fun e w' => e = .returned (.tuple #[.pointer none, .int .i64 1]) ∧ w' = w := by
  have hmax := hwf.max
  obtain ⟨lv, cv, hI⟩ := hD
  have c0 := hI.c0
  obtain ⟨lb, lc, hlv⟩ := hI.formL hwf.pos
  rw [hlv] at c0
  obtain ⟨L, hL⟩ : ∃ L, D.L.length = L := ⟨_, rfl⟩
  rw [hL] at hx hmax c0
  clear hL hI hwf hlv
  by_cases h1 : b < 1
  · have d1 : decide (b < 1) = true := by simpa using h1
    go_enter Try.func14, Try.ntmps14
    go_wp2
    go_ret2
    exact ⟨rfl, rfl⟩
  · have d1 : decide (b < 1) = false := by simpa using h1
    by_cases h2 : (L : Int) < b
    · have d2 : decide ((L : Int) < b) = true := by simpa using h2
      go_enter Try.func14, Try.ntmps14
      go_wp2
      go_ret2
      exact ⟨rfl, rfl⟩
    · have d2 : decide ((L : Int) < b) = false := by simpa using h2
      by_cases h3 : a < 0
      · have d3 : decide (a < 0) = true := by simpa using h3
        go_enter Try.func14, Try.ntmps14
        go_wp2
        go_ret2
        exact ⟨rfl, rfl⟩
      · have d3 : decide (a < 0) = false := by simpa using h3
        by_cases h4 : (L : Int) < a
        · have d4 : decide ((L : Int) < a) = true := by simpa using h4
          go_enter Try.func14, Try.ntmps14
          go_wp2
          go_ret2
          exact ⟨rfl, rfl⟩
        · have d4 : decide ((L : Int) < a) = false := by simpa using h4
          have d5 : decide ((L : Int) - a < 5 + 4 * b) = true := by simp; omega
          go_enter Try.func14, Try.ntmps14
          go_wp2
          go_ret2
          exact ⟨rfl, rfl⟩

set_option maxHeartbeats 4000000 in
set_option maxRecDepth 100000 in
theorem ropen_go (hD : RefAt w p fp D) (hwf : D.wf) (hn : 1 ≤ n) (hW : D.W.length ≤ 700000) (hfr : fr + 5 + 4 * n ≤ D.L.length) :
    Calls Try.prog 14 #[.pointer (some ⟨p, 0, none⟩), .int .i64 (fr : Int), .int .i64 (n : Int)] w fun e w' =>
      e = .returned (.tuple #[.pointer (if (D.mend fr n).1 = 0 then some ⟨w.heap.size, 0, none⟩ else none), .int .i64 (D.mend fr n).1]) ∧
      ∃ fp', RFileAt w' w.heap.size p fr n false ∧ RefAt w' p fp' (D.mend fr n).2 ∧ Off fp w w' ∧ (∀ k ∈ fp', k ∈ fp ∨ w.heap.size ≤ k) ∧ w.heap.size ∉ fp' := by
  have hmax := hwf.max
  have hnq : w.heap.size ∉ fp := fun hm => by have := hD.lim _ hm; omega
  obtain ⟨lv, cv, hI⟩ := id hD
  have c0 := hI.c0
  obtain ⟨lb, lc, hlv⟩ := hI.formL hwf.pos
  rw [hlv] at c0
  have d1 : decide ((n : Int) < 1) = false := by simp; omega
  have d2 : decide ((D.L.length : Int) < (n : Int)) = false := by simp; omega
  have d3 : decide ((fr : Int) < 0) = false := by simp
  have d4 : decide ((D.L.length : Int) < (fr : Int)) = false := by simp; omega
  have d5 : decide ((D.L.length : Int) - (fr : Int) < 5 + 4 * (n : Int)) = false := by simp; omega
  clear hI hlv
  obtain ⟨w1, hw1⟩ : ∃ w1, w.alloc (.cells #[.pointer (some ⟨p, 0, none⟩), .int .i64 (fr : Int), .int .i64 (n : Int), .bool false] 75) = w1 := ⟨_, rfl⟩
  have hb1 : Below w.heap.size w w1 := by rw [← hw1]; exact (Below.refl _ _).alloc (Nat.le_refl _) _
  have hF1 : RFileAt w1 w.heap.size p fr n false := by rw [← hw1]; exact heap_alloc_new w _
  have HC1 : Hid (RCar w w1 w.heap.size p fr n false fp fp D) := ⟨hF1, hD.below hb1, hwf, Off.of_below hb1 fp, fun k hk => .inl hk, hnq⟩
  have HW1 := hide hw1
  obtain ⟨R, hR⟩ : ∃ R, D.mend fr n = R := ⟨_, rfl⟩
  rw [hR]
  unfold Dv.mend at hR
  have HR := hide hR
  obtain ⟨ptr, hptr⟩ : ∃ ptr, (if R.1 = 0 then some (⟨w.heap.size, 0, none⟩ : Addr) else none) = ptr := ⟨_, rfl⟩
  rw [hptr]
  have HPTR := hide hptr
  clear hptr
  clear hR hF1 hb1 hD hnq hw1
  by_cases hd : D.dead = true
  · rw [if_pos hd] at HR
    have HRD := hide (rread_dead p (fr : Int) w1 fp D HC1.out.dev hd)
    go_enter Try.func14, Try.ntmps14
    go_wp2_with fail
    rw [HW1.out]
    refine HRD.out.mono ?_
    rintro e w2 ⟨rfl, hw⟩
    have hw := hw.symm
    subst hw
    go_wp2
    go_ret2
    have hp : ptr = none := by rw [← HPTR.out, ← HR.out]; exact if_neg (show ¬ ((50, D) : Int × Dv).1 = 0 by simp)
    rw [← HR.out, hp]
    first
      | exact ⟨rfl, _, HC1.out.fl, HC1.out.dev, HC1.out.off, HC1.out.fresh, HC1.out.nq⟩
      | exact ⟨rfl, HC1.out.fl, _, HC1.out.dev, HC1.out.off, HC1.out.fresh, HC1.out.nq⟩
  · have hd' : D.dead = false := by simpa using hd
    rw [if_neg hd] at HR
    have HX := hide (length_newest D hwf fr (by omega))
    have HRD := hide (rread_ok p fr w1 fp D HC1.out.dev hd' (by omega) (by omega))
    go_enter Try.func14, Try.ntmps14
    go_wp2_with fail
    rw [HW1.out]
    refine HRD.out.mono ?_
    rintro e w2 ⟨rfl, hD2, hO2⟩
    have hD2 : RefAt w2 p fp (D.more 1) := hD2
    have HC2 := hide (HC1.out.next hD2 (wf_more hwf 1) hO2 (fun k hk => .inl hk))
    clear HRD hD2 hO2 HW1 c0
    have hv := beval_lt ((D.newest fr).take 8)
    rw [List.length_take, HX.out] at hv
    have HXV : Hid (D.named fr = beval ((D.newest fr).take 8)) := by show _ = _; rfl
    rw [HXV.out] at HR
    obtain ⟨X, hX⟩ : ∃ X, D.newest fr = X := ⟨_, rfl⟩
    rw [hX] at HR HX hv ⊢
    clear HXV hX
    go_wp2_with fail
    go_loop [12, 11] (fun iv nv => ∃ k : Nat, k ≤ 8 ∧ iv = .int .i64 k ∧ nv = .int .u64 (beval (X.take k) : Nat)) (fun iv _ => 8 - (intOf iv).toNat)
    case atStart => exact ⟨0, by omega, rfl, rfl⟩
    case round =>
      obtain ⟨k, hk, rfl, rfl⟩ := hrel
      by_cases hlt : k < 8
      · have hby : ∀ u, (Instr.index 9 (.string (strOf X)) (.int .i64 (k : Int))).run Try.prog u = .ok (.int .u8 ((X[k]'(by rw [HX.out]; omega)).toNat : Int)) u := fun u => run_byte u X k (by rw [HX.out]; omega)
        have hsn : beval (X.take (k + 1)) = beval (X.take k) * 256 + (X[k]'(by rw [HX.out]; omega)).toNat := by rw [List.take_succ_eq_append_getElem (by rw [HX.out]; omega), beval_snoc]
        have hb1 : beval (X.take k) < 72057594037927936 := by
          have h1 := beval_lt (X.take k)
          rw [List.length_take, HX.out, Nat.min_eq_left (by omega)] at h1
          exact Nat.lt_of_lt_of_le h1 (Nat.le_trans (Nat.pow_le_pow_right (by omega) (by omega : k ≤ 7)) (by decide))
        have hb2 := (X[k]'(by rw [HX.out]; omega)).toNat_lt
        have HSN := hide hsn
        clear hsn
        generalize (X[k]'(by rw [HX.out]; omega)).toNat = c at *
        obtain ⟨v, hv0⟩ : ∃ v, beval (X.take k) = v := ⟨_, rfl⟩
        rw [hv0] at HSN hb1 ⊢
        clear hv0
        have hu1 : IntKind.u64.wrap (256 * (v : Int)) = 256 * (v : Int) := by rw [wrapU]; omega
        have hu2 : IntKind.u64.wrap (c : Int) = (c : Int) := by rw [wrapU]; omega
        have hu3 : IntKind.u64.wrap (256 * (v : Int) + (c : Int)) = 256 * (v : Int) + (c : Int) := by rw [wrapU]; omega
        go_wp2
        go_round
        case rel =>
          refine ⟨k + 1, by omega, by go_num, ?_⟩
          rw [HSN.out]
          congr 1
          omega
        case measure => simp [intOf]; omega
      · have hk8 : k = 8 := by omega
        subst hk8
        obtain ⟨v, hv0⟩ : ∃ v, beval (X.take 8) = v := ⟨_, rfl⟩
        rw [hv0] at HR hv ⊢
        clear hv0
        have hwv : IntKind.u64.wrap (v : Int) = (v : Int) := by
          rw [wrapU]
          have e : 256 ^ (min 8 128) = 18446744073709551616 := by decide
          omega
        have hwn : IntKind.u64.wrap (n : Int) = (n : Int) := by rw [wrapU]; omega
        by_cases hr : v < 1 ∨ n < v
        · rw [if_pos hr] at HR
          by_cases h1 : v < 1
          · have e1 : decide ((v : Int) < 1) = true := by simp; omega
            go_wp2
            go_ret2
            have hp : ptr = some ⟨w.heap.size, 0, none⟩ := by rw [← HPTR.out, ← HR.out]; exact if_pos (show ((0, D.more 1) : Int × Dv).1 = 0 from rfl)
            rw [← HR.out, hp]
            first
              | exact ⟨rfl, _, HC2.out.fl, HC2.out.dev, HC2.out.off, HC2.out.fresh, HC2.out.nq⟩
              | exact ⟨rfl, HC2.out.fl, _, HC2.out.dev, HC2.out.off, HC2.out.fresh, HC2.out.nq⟩
          · have h2 : n < v := by omega
            have e1 : decide ((v : Int) < 1) = false := by simp; omega
            have e2 : decide ((n : Int) < (v : Int)) = true := by simp; omega
            go_wp2
            go_ret2
            have hp : ptr = some ⟨w.heap.size, 0, none⟩ := by rw [← HPTR.out, ← HR.out]; exact if_pos (show ((0, D.more 1) : Int × Dv).1 = 0 from rfl)
            rw [← HR.out, hp]
            first
              | exact ⟨rfl, _, HC2.out.fl, HC2.out.dev, HC2.out.off, HC2.out.fresh, HC2.out.nq⟩
              | exact ⟨rfl, HC2.out.fl, _, HC2.out.dev, HC2.out.off, HC2.out.fresh, HC2.out.nq⟩
        · rw [if_neg hr] at HR
          have h1 : ¬ v < 1 := fun hx => hr (.inl hx)
          have h2 : ¬ n < v := fun hx => hr (.inr hx)
          have e1 : decide ((v : Int) < 1) = false := by simp; omega
          have e2 : decide ((n : Int) < (v : Int)) = false := by simp; omega
          clear hr
          have HF4 := hide (rfour_ok (fr + 1) HC2.out.fl HC2.out.dev HC2.out.wf HC2.out.nq (by rw [more_dead]; exact hd') (by rw [more_W]; omega) (by rw [more_L]; omega))
          rw [more_more, more_four] at HF4
          have HB := hide (length_four hwf (fr + 1) (by omega))
          have hWM : (D.more 5).W.length ≤ 800000 := by rw [more_W]; omega
          have hwfM := wf_more hwf 5
          obtain ⟨B, hB⟩ : ∃ B, D.four (fr + 1) = B := ⟨_, rfl⟩
          rw [hB] at HR HF4 HB
          clear hB
          have hwi : IntKind.i64.wrap (v : Int) = (v : Int) := by rw [IntKind.wrap_i64]; omega
          have hwi2 : IntKind.i64.wrap ((v : Int) - 1) = (v : Int) - 1 := by rw [IntKind.wrap_i64]; omega
          go_wp2_with fail
          refine HF4.out.mono ?_
          rintro e w3 ⟨rfl, hD3, hO3⟩
          have hD3 : RefAt w3 p fp (D.more 5) := hD3
          have HC3 := hide (HC2.out.next hD3 hwfM hO3 (fun k hk => .inl hk))
          clear hD3 hO3 HF4
          generalize D.more 5 = E at *
          have HAT := hide (rat_any (v - 1) HC3.out.fl (by omega) (by omega))
          rw [show ((v - 1 : Nat) : Int) = (v : Int) - 1 by omega] at HAT
          have HPU := hide (rput_any (fr + 5 + 4 * (v - 1)) B HB.out HC3.out.fl HC3.out.dev HC3.out.wf HC3.out.nq (by omega) (by omega))
          have hLW3 := lay_W (secsOf 4 B) E (fr + 5 + 4 * (v - 1))
          rw [length_secsOf] at hLW3
          have hwf5 := wf_lay (secsOf 4 B) E (fr + 5 + 4 * (v - 1)) HC3.out.wf
          unfold Dv.carP at HR
          obtain ⟨⟨z, E3⟩, hZ⟩ : ∃ Z, E.lay (fr + 5 + 4 * (v - 1)) (secsOf 4 B) = Z := ⟨_, rfl⟩
          rw [hZ] at HR HPU hLW3 hwf5
          have hLW3 : E3.W.length ≤ E.W.length + 4 := hLW3
          have hwf5 : E3.wf := hwf5
          have HWF5 := hide hwf5
          clear hZ hwf5
          by_cases hz : z = 0
          · subst hz
            rw [onOk_ok rfl] at HR
            go_wp2_with (first | (go_at_call 36; refine HAT.out.mono ?_; rintro e w' ⟨rfl, hw⟩; have hw := hw.symm; subst hw) | fail)
            refine HPU.out.mono ?_
            rintro e w5 ⟨rfl, fp5, hD5, hO5, hF5⟩
            have hD5 : RefAt w5 p fp5 E3 := hD5
            have HC5 := hide (HC3.out.next hD5 HWF5.out hO5 hF5)
            clear hD5 hO5 hF5 HPU HAT
            go_wp2_with fail
            refine (fblank_any w5).mono ?_
            rintro e w6 ⟨rfl, hb6⟩
            have HC6 := hide (HC5.out.belowW hb6)
            have HHE := hide (rhead_any zeros length_zeros HC6.out.fl HC6.out.dev HC6.out.wf HC6.out.nq (by omega) (by omega))
            have hwf7 := wf_lay [zeros] E3 fr HC6.out.wf
            rw [zeros_head] at HHE hwf7
            obtain ⟨⟨y, E4⟩, hY⟩ : ∃ Y, E3.lay fr [headOf 0] = Y := ⟨_, rfl⟩
            rw [hY] at HR HHE hwf7
            clear hb6 hY
            by_cases hy : y = 0
            · subst hy
              go_wp2_with fail
              refine HHE.out.mono ?_
              rintro e w7 ⟨rfl, fp7, hD7, hO7, hF7⟩
              have HC7 := hide (HC6.out.next hD7 hwf7 hO7 hF7)
              clear hD7 hO7 hF7 HHE
              go_wp2
              go_ret2
              have hp : ptr = some ⟨w.heap.size, 0, none⟩ := by rw [← HPTR.out, ← HR.out]; exact if_pos (show ((0, E4) : Int × Dv).1 = 0 from rfl)
              rw [← HR.out, hp]
              first
                | exact ⟨rfl, _, HC7.out.fl, HC7.out.dev, HC7.out.off, HC7.out.fresh, HC7.out.nq⟩
                | exact ⟨rfl, HC7.out.fl, _, HC7.out.dev, HC7.out.off, HC7.out.fresh, HC7.out.nq⟩
            · have hyn : (y != 0) = true := by simpa using hy
              go_wp2_with fail
              refine HHE.out.mono ?_
              rintro e w7 ⟨rfl, fp7, hD7, hO7, hF7⟩
              have HC7 := hide (HC6.out.next hD7 hwf7 hO7 hF7)
              clear hD7 hO7 hF7 HHE
              go_wp2
              go_ret2
              have hp : ptr = none := by rw [← HPTR.out, ← HR.out]; exact if_neg (show ¬ ((y, E4) : Int × Dv).1 = 0 from hy)
              rw [← HR.out, hp]
              first
                | exact ⟨rfl, _, HC7.out.fl, HC7.out.dev, HC7.out.off, HC7.out.fresh, HC7.out.nq⟩
                | exact ⟨rfl, HC7.out.fl, _, HC7.out.dev, HC7.out.off, HC7.out.fresh, HC7.out.nq⟩
          · rw [onOk_no hz] at HR
            have hzb : (z == 0) = false := by simpa using hz
            have hzn : (z != 0) = true := by simpa using hz
            go_wp2_with (first | (go_at_call 36; refine HAT.out.mono ?_; rintro e w' ⟨rfl, hw⟩; have hw := hw.symm; subst hw) | fail)
            refine HPU.out.mono ?_
            rintro e w5 ⟨rfl, fp5, hD5, hO5, hF5⟩
            have hD5 : RefAt w5 p fp5 E3 := hD5
            have HC5 := hide (HC3.out.next hD5 HWF5.out hO5 hF5)
            clear hD5 hO5 hF5 HPU HAT
            go_wp2
            go_ret2
            have hp : ptr = none := by rw [← HPTR.out, ← HR.out]; exact if_neg (show ¬ ((z, E3) : Int × Dv).1 = 0 from hz)
            rw [← HR.out, hp]
            first
              | exact ⟨rfl, _, HC5.out.fl, HC5.out.dev, HC5.out.off, HC5.out.fresh, HC5.out.nq⟩
              | exact ⟨rfl, HC5.out.fl, _, HC5.out.dev, HC5.out.off, HC5.out.fresh, HC5.out.nq⟩
end
end Go.Proofs.Ytkdlggobbkedmaa
