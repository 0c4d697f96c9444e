/- The walk of RowWidths, a null. -/
import Derived.Test.YtplpchaceiogaaaDoorWdp
namespace Go.Proofs.YtplpchaceiogaaaDoor
open Go.RowKit
set_option linter.unusedVariables false
set_option linter.unusedSimpArgs false
set_option maxRecDepth 100000

set_option maxHeartbeats 16000000 in
theorem widths_t (m : Int) (n : Nat) (hn : n ≤ 700) (ix : Bool) (w : World) (hm : w.cell? ⟨0, 0, none⟩ = some (.int .i64 m)) :
    Calls Tryd.prog 3 #[.int .i64 (n : Int), .bool ix, .bool true] w fun e w' => e = .returned (.bool true) ∧ Below w.heap.size w w' := by
  have h00 : ¬ (n : Int) < 0 := by omega
  have h07 : ¬ (700 : Int) < (n : Int) := by omega
  have HM := hide hm
  clear hm
  go_enter Tryd.func3, Tryd.ntmps3
  go_upto_region 4 with fail
  have hb0 : Below w.heap.size w ((w.alloc (.cells #[.string { data := #[97] }, .int .i64 2, .bool false, .bool ix, .string { data := #[98] }, .int .i64 1, .bool true, .bool false] 24)).alloc (.cells #[.string { data := #[116] }, .slice (some ⟨w.heap.size, 0, none⟩) 2 2, .slice none 0 0, .int .i64 0, .slice none 0 0] 29)) := ((Below.refl _ w).alloc (Nat.le_refl _) _).alloc (by simp) _
  have hx0 : TBox ((w.alloc (.cells #[.string { data := #[97] }, .int .i64 2, .bool false, .bool ix, .string { data := #[98] }, .int .i64 1, .bool true, .bool false] 24)).alloc (.cells #[.string { data := #[116] }, .slice (some ⟨w.heap.size, 0, none⟩) 2 2, .slice none 0 0, .int .i64 0, .slice none 0 0] 29)) (w.heap.size + 1) (wT ix) (wP w.heap.size) := by
    have := heap_alloc_new (w.alloc (.cells #[.string { data := #[97] }, .int .i64 2, .bool false, .bool ix, .string { data := #[98] }, .int .i64 1, .bool true, .bool false] 24)) (.cells #[.string { data := #[116] }, .slice (some ⟨w.heap.size, 0, none⟩) 2 2, .slice none 0 0, .int .i64 0, .slice none 0 0] 29)
    rw [show (w.alloc (.cells #[.string { data := #[97] }, .int .i64 2, .bool false, .bool ix, .string { data := #[98] }, .int .i64 1, .bool true, .bool false] 24)).heap.size = w.heap.size + 1 by simp] at this
    exact this
  have hc0 := first2 w (.cells #[.string { data := #[97] }, .int .i64 2, .bool false, .bool ix, .string { data := #[98] }, .int .i64 1, .bool true, .bool false] 24) (.cells #[.string { data := #[116] }, .slice (some ⟨w.heap.size, 0, none⟩) 2 2, .slice none 0 0, .int .i64 0, .slice none 0 0] 29)
  generalize (w.alloc (.cells #[.string { data := #[97] }, .int .i64 2, .bool false, .bool ix, .string { data := #[98] }, .int .i64 1, .bool true, .bool false] 24)).alloc (.cells #[.string { data := #[116] }, .slice (some ⟨w.heap.size, 0, none⟩) 2 2, .slice none 0 0, .int .i64 0, .slice none 0 0] 29) = W0 at *
  have ht0 : TbAt W0 (wT ix) (wP w.heap.size) := ⟨⟨_, 2, rfl, Nat.le_refl _, by simp only [maxLen]; omega, fun _ => ⟨w.heap.size, 0, rfl, fun j u hu => by
      rw [Nat.zero_add, cell_row hc0]
      show (clsCells (wT ix).cols).toArray[j]? = some u
      simpa using hu⟩⟩, Row.nil _, Row.nil _⟩
  have HM0 : Hid (W0.cell? ⟨0, 0, none⟩ = some (.int .i64 m)) := cell_belowW HM.out hb0
  have HB0 := hide hb0
  have HX0 := hide hx0
  have HT0 := hide ht0
  clear hb0 hx0 hc0 ht0 HM
  generalize hg : w.heap.size = g at *
  have HG := hide hg
  clear hg
  have hmk := Tryd.make30 n (by omega) W0
  have hb1 : Below W0.heap.size W0 (W0.alloc (.cells (secCells (xsTo n 0)).toArray 5)) := (Below.refl _ _).alloc (Nat.le_refl _) _
  have HO0 : Hid (Octets (W0.alloc (.cells (secCells (xsTo n 0)).toArray 5)) W0.heap.size (xsTo n 0)) := heap_alloc_new _ _
  have HB1 := hide hb1
  clear hb1
  generalize W0.alloc (.cells (secCells (xsTo n 0)).toArray 5) = W1 at *
  generalize hgb : W0.heap.size = gb at *
  have HGB := hide hgb
  clear hgb
  have HXL : Hid (∀ k, k ≤ n → (xsTo n k).length = n) := fun k hk => xsTo_len n k hk
  have HXS : Hid (∀ k, k < n → (xsTo n k).set k 120 = xsTo n (k + 1)) := fun k hk => xsTo_set n k hk
  go_wp2
  clear hmk
  go_loopw [9] (fun i wr => ∃ k : Nat, k ≤ n ∧ i = .int .i64 (k : Int) ∧ Octets wr gb (xsTo n k) ∧ Below gb W0 wr) (fun i _ => n - (intOf i).toNat)
  case atStart => exact ⟨0, by omega, rfl, HO0.out, HB1.out⟩
  case round =>
    clear HO0 HB1
    obtain ⟨k, hk, rfl, hO, hB⟩ := hrel
    have HO := hide hO
    have HB := hide hB
    clear hO hB
    by_cases hlt : k < n
    · obtain ⟨cv, hcv⟩ := HO.out.cell k (by rw [HXL.out k hk]; exact hlt)
      have hfz := frozen_row (o := k) HO.out
      have HS := hide (HXS.out k hlt)
      go_wp2
      go_roundw
      case rel =>
        refine ⟨k + 1, by omega, by go_num, ?_, Below.setCell' HB.out _ _ (Nat.le_refl gb)⟩
        rw [← HS.out]
        exact HO.out.set k
      case measure => simp [intOf]; omega
    · have hkn : k = n := by omega
      subst hkn
      have hsl := HO.out.sl (HXL.out k (Nat.le_refl _)) (by omega)
      rw [xsTo_all] at hsl
      have hcv := run_str hsl
      have HBW : Hid (Below W0.heap.size W0 wr) := by rw [HGB.out]; exact HB.out
      have hs1 := hide (HX0.out.belowW HBW.out)
      have hs2 := hide (HT0.out.belowW HBW.out)
      have hs3 : Hid (wr.cell? ⟨0, 0, none⟩ = some (.int .i64 m)) := cell_belowW HM0.out HBW.out
      have HBX : Hid (Below w.heap.size w wr) := thenW (by rw [HG.out]; exact HB0.out) HBW.out
      have HC1 : Hid (∀ W, Calls Tryd.prog 10 #[.string (strOf (xs k))] W fun e w' => e = .returned (.agg #[.int .i64 2, .int .i64 0, .string (strOf (xs k)), .bool false]) ∧ Below W.heap.size W w') := fun W => text10 (xs k) W
      have HC2 : Hid (∀ W, Calls Tryd.prog 11 #[.int .i64 5] W fun e w' => e = .returned (.agg #[.int .i64 1, .int .i64 5, .string { data := #[] }, .bool false]) ∧ Below W.heap.size W w') := fun W => num11 5 W
      clear hsl HO HB HXL HXS HX0 HT0 HM0 HB0 HGB HG
      generalize wr = W2 at *
      go_upto_region 11 with (first
        | (go_at_call 10; refine (HC1.out _).mono ?_; rintro e w3 ⟨rfl, hb3⟩; have HB3 := hide hb3; clear hb3)
        | (go_at_call 11; refine (HC2.out _).mono ?_; rintro e w4 ⟨rfl, hb4⟩; have HB4 := hide hb4; clear hb4))
      have hh4 := heap_alloc_new w4 (.cells #[.int .i64 2, .int .i64 0, .string (strOf (xs k)), .bool false, .int .i64 1, .int .i64 5, .string { data := #[] }, .bool false] 32)
      have hB4 := thenW HB3.out HB4.out
      have HB6 : Hid (Below W2.heap.size W2 (w4.alloc (.cells #[.int .i64 2, .int .i64 0, .string (strOf (xs k)), .bool false, .int .i64 1, .int .i64 5, .string { data := #[] }, .bool false] 32))) := allocW hB4 _
      have HSZ : Hid (W2.heap.size ≤ w4.heap.size) := hB4.size
      clear HB3 HB4 HC1 HC2 hB4
      generalize w4.alloc (.cells #[.int .i64 2, .int .i64 0, .string (strOf (xs k)), .bool false, .int .i64 1, .int .i64 5, .string { data := #[] }, .bool false] 32) = W4 at *
      generalize w4.heap.size = gl at *
      obtain ⟨W5, hst, hh5, hb5⟩ := store_second hh4
      have HST := hide hst
      have HH5 := hide hh5
      have HB7 : Hid (Below W2.heap.size W2 W5) := hb5 _ _ HB6.out HSZ.out
      clear hh4 HB6 HSZ hst hh5 hb5
      go_upto_region 12 with (refine wpList_store_in rfl 32 (.tmp 45) (.tmp 44) rfl rfl gl 4 [.int .i64 0, .int .i64 0, .string { data := #[] }, .bool false] W5 rfl rfl HST.out ?_)
      have HV : Hid (VsAt W5 (.slice (some ⟨gl, 0, none⟩) (wL k true).length 2) (wL k true)) := vl_set HH5.out
      have HB5 := HB7
      clear HST HH5 HB7
      have HS : Hid (RwS (g + 1) g gl ix true k m W5) := ⟨hs1.out.belowW HB5.out, hs2.out.belowW HB5.out, HV.out, cell_belowW hs3.out HB5.out⟩
      have HBY : Hid (Below w.heap.size w W5) := thenW HBX.out HB5.out
      clear hs1 hs2 hs3 HBX HB5 HV
      have a0 : W5.cell? ⟨g + 1, 0, none⟩ = some (.string { data := #[116] }) := by rw [cell_row HS.out.tb]; rfl
      have a1 : W5.cell? ⟨g + 1, 1, none⟩ = some (.slice (some ⟨g, 0, none⟩) 2 2) := HS.out.tb.c1
      have a2 : W5.cell? ⟨g + 1, 2, none⟩ = some (.slice none 0 0) := HS.out.tb.c2
      have a3 : W5.cell? ⟨g + 1, 3, none⟩ = some (.int .i64 0) := by rw [cell_row HS.out.tb]; rfl
      have a4 : W5.cell? ⟨g + 1, 4, none⟩ = some (.slice none 0 0) := HS.out.tb.c4
      have HC := hide (chk12 HS.out.tbl (wT_few ix) HS.out.vl (wL_wf k true) (wL_bulk k true hn))
      have HC' : Hid (Calls Tryd.prog 12 #[.agg #[.string { data := #[116] }, .slice (some ⟨g, 0, none⟩) 2 2, .slice none 0 0, .int .i64 0, .slice none 0 0], .slice (some ⟨gl, 0, none⟩) 2 2] W5 fun e w' => e = .returned (.int .i64 (if ix = true ∧ 40 < k then 170 else if true = true then 163 else codE (wL k true))) ∧ Below W5.heap.size W5 w') := HC.out.mono (fun e w' ⟨x, h1, h2, h3⟩ => ⟨by rw [h1, wchk k ix true h2], h3⟩)
      clear HC
      obtain ⟨F, hF⟩ : ∃ F, codE (wL k true) = F := ⟨_, rfl⟩
      have HF := hide hF
      rw [hF] at HC'
      clear hF
      obtain ⟨X, hX⟩ : ∃ X, (if ix = true ∧ 40 < k then (170 : Int) else if true = true then 163 else F) = X := ⟨_, rfl⟩
      rw [hX] at HC'
      have HXX := hide hX
      clear hX
      go_upto_region 13 with (go_at_call 12; refine HC'.out.mono ?_; rintro e w6 ⟨rfl, hb6⟩; have HB6 := hide hb6; clear hb6)
      have HS6 := hide (HS.out.belowW HB6.out)
      have HBZ : Hid (Below w.heap.size w w6) := thenW HBY.out HB6.out
      clear HC' HS HBY HB6 a0 a1 a2 a3 a4
      have HD := hide (cod13 HS6.out.vl (wL_wf k true) (wL_bulk k true hn))
      unfold CodEnd at HD
      rw [(wL_size k).2] at HD
      have HAW : Hid (∀ W, Below w6.heap.size w6 W → Calls Tryd.prog 9 #[] W fun e w' => e = .returned (.bool true) ∧ Below W.heap.size W w') := fun W hW => awake_any m W (cell_belowW HS6.out.z hW)
      by_cases hlim : k ≤ 476
      · have hle : k + 4 ≤ 480 := by omega
        have hF0 : F = 0 := by rw [← HF.out, (wL_code k).2, if_pos (by omega)]
        simp only [hle, if_true] at HD
        go_upto_region 14 with (go_at_call 13; refine HD.out.mono ?_; rintro e w7 ⟨u7, rfl, hB7⟩)
        obtain ⟨a7, c7, e7, hc71, hc72⟩ := hB7.sl.len
        subst e7
        rw [(wL_size k).2] at hc71 ⊢
        have HB7 := hide hB7.below
        clear hB7 HD
        subst hF0
        have HS7 := hide (HS6.out.belowW HB7.out)
        have HBA : Hid (Below w.heap.size w w7) := thenW HBZ.out HB7.out
        clear HF HS6 HBZ
        go_upto_region 17 with fail
        obtain ⟨N, hN⟩ : ∃ N, k + 4 = N := ⟨_, rfl⟩
        have e1 : (k : Int) + 3 + 1 = (N : Int) := by omega
        rw [e1]
        rw [hN]
        have hsl : (N : Int) ≤ 480 := by omega
        clear e1 hN hle
        try clear hc71
        by_cases hc : ix = true ∧ 40 < k
        · obtain ⟨rfl, h40⟩ := hc
          have h40' : (40 : Int) < (k : Int) := by omega
          have hX0 : X = 170 := by rw [← HXX.out, if_pos ⟨rfl, h40⟩]
          subst hX0
          clear HXX
          have HA := hide (HAW.out w7 HB7.out)
          go_wp2_with (go_at_call 9; refine HA.out.mono ?_; rintro e w8 ⟨rfl, hb8⟩; have HB8 := hide hb8; clear hb8)
          go_ret
          exact ⟨rfl, thenW HBA.out HB8.out⟩
        · have hX0 : X = 163 := by rw [← HXX.out, if_neg hc]; rfl
          subst hX0
          clear HXX
          have hcx : ix = false ∨ (ix = true ∧ ¬ (40 : Int) < (k : Int)) := by
            cases ix
            · exact .inl rfl
            · exact .inr ⟨rfl, fun h => hc ⟨rfl, by omega⟩⟩
          clear hc
          have HA := hide (HAW.out w7 HB7.out)
          rcases hcx with rfl | ⟨rfl, h40⟩
          · go_wp2_with (go_at_call 9; refine HA.out.mono ?_; rintro e w8 ⟨rfl, hb8⟩; have HB8 := hide hb8; clear hb8)
            go_ret
            exact ⟨rfl, thenW HBA.out HB8.out⟩
          · go_wp2_with (go_at_call 9; refine HA.out.mono ?_; rintro e w8 ⟨rfl, hb8⟩; have HB8 := hide hb8; clear hb8)
            go_ret
            exact ⟨rfl, thenW HBA.out HB8.out⟩
      · have hle : ¬ k + 4 ≤ 480 := by omega
        have hF0 : F = 170 := by rw [← HF.out, (wL_code k).2, if_neg (by omega)]
        simp only [hle, if_false] at HD
        go_upto_region 14 with (go_at_call 13; refine HD.out.mono ?_; rintro e w7 ⟨rfl, hb7⟩; have HB7 := hide hb7; clear hb7)
        clear HD
        subst hF0
        have HS7 := hide (HS6.out.belowW HB7.out)
        have HBA : Hid (Below w.heap.size w w7) := thenW HBZ.out HB7.out
        clear HF HS6 HBZ
        go_upto_region 17 with fail
        obtain ⟨N, hN⟩ : ∃ N, k + 4 = N := ⟨_, rfl⟩
        have e1 : (k : Int) + 3 + 1 = (N : Int) := by omega
        rw [e1]
        have hsl : ¬ (N : Int) ≤ 480 := by omega
        clear e1 hN hle
        by_cases hc : ix = true ∧ 40 < k
        · obtain ⟨rfl, h40⟩ := hc
          have h40' : (40 : Int) < (k : Int) := by omega
          have hX0 : X = 170 := by rw [← HXX.out, if_pos ⟨rfl, h40⟩]
          subst hX0
          clear HXX
          have HA := hide (HAW.out w7 HB7.out)
          go_wp2_with (go_at_call 9; refine HA.out.mono ?_; rintro e w8 ⟨rfl, hb8⟩; have HB8 := hide hb8; clear hb8)
          go_ret
          exact ⟨rfl, thenW HBA.out HB8.out⟩
        · have hX0 : X = 163 := by rw [← HXX.out, if_neg hc]; rfl
          subst hX0
          clear HXX
          have hcx : ix = false ∨ (ix = true ∧ ¬ (40 : Int) < (k : Int)) := by
            cases ix
            · exact .inl rfl
            · exact .inr ⟨rfl, fun h => hc ⟨rfl, by omega⟩⟩
          clear hc
          have HA := hide (HAW.out w7 HB7.out)
          rcases hcx with rfl | ⟨rfl, h40⟩
          · go_wp2_with (go_at_call 9; refine HA.out.mono ?_; rintro e w8 ⟨rfl, hb8⟩; have HB8 := hide hb8; clear hb8)
            go_ret
            exact ⟨rfl, thenW HBA.out HB8.out⟩
          · go_wp2_with (go_at_call 9; refine HA.out.mono ?_; rintro e w8 ⟨rfl, hb8⟩; have HB8 := hide hb8; clear hb8)
            go_ret
            exact ⟨rfl, thenW HBA.out HB8.out⟩
end Go.Proofs.YtplpchaceiogaaaDoor
