/- SlotAlike's walk. -/
import Derived.Test.YtdddeneppciiiaaGood
namespace Go.Proofs.Ytdddeneppciiiaa
open Go.RowKit
set_option linter.unusedVariables false
set_option linter.unusedSimpArgs false

set_option maxHeartbeats 4000000 in
set_option maxRecDepth 100000 in
theorem alike_walk (a0 : Option Addr) (len0 cap0 : Nat) (B0 : Nat → List UInt8) (a1 : Option Addr) (len1 cap1 : Nat) (B1 : Nat → List UInt8) (w : World) (h0 : RowsIn w a0 len0 B0) (h1 : RowsIn w a1 len1 B1) :
    Calls Try.prog 6 #[.slice a0 len0 cap0, .slice a1 len1 cap1] w fun e w' => e = .returned (.bool true) ∧ Below w.heap.size w w' := by
  have H0 := hide h0
  have H1 := hide h1
  have hl0 := h0.1
  have hl1 := h1.1
  clear h0 h1
  have HN := hide (new_any w)
  go_enter Try.func6, Try.ntmps6
  go_wp2_with fail
  refine HN.out.mono ?_
  rintro e W1 ⟨q1, rfl, hs1, hb1⟩
  have HS1 := hide hs1
  have HB1 := hide hb1
  have HN2 := hide (new_any W1)
  clear HN hs1 hb1
  go_wp2_with (go_at_call 8; refine HN2.out.mono ?_; rintro e W2 ⟨q2, rfl, hs2, hb2⟩)
  have HS2 := hide hs2
  have HS12 := hide (HS1.out.belowW hb2)
  have HB2 := hide (HB1.out.trans (hb2.mono HB1.out.size))
  clear hs2 hb2 HN2 HS1 HB1
  go_loopw [7, 5, 6] (fun i p q wr => ∃ (k : Nat) (g : Pg) (ap : Option Addr) (cp : Nat) (aq : Option Addr) (cq : Nat), k ≤ len0 ∧ i = .int .i64 (k : Int) ∧ p = .slice ap 504 cp ∧ q = .slice aq 504 cq ∧ Good g ∧ Sl wr (.slice ap 504 cp) g.enc ∧ Sl wr (.slice aq 504 cq) g.enc ∧ Below w.heap.size w wr) (fun i _ _ _ => len0 - (intOf i).toNat)
  case atStart => exact ⟨0, Pg.zero, _, _, _, _, Nat.zero_le _, rfl, rfl, rfl, zero_good, HS12.out, HS2.out, HB2.out⟩
  case round =>
    obtain ⟨k, g, ap, cp, aq, cq, hk, rfl, rfl, rfl, hg, hp, hq, hb⟩ := hrel
    have HG := hide hg
    have HP := hide hp
    have HQ := hide hq
    have HB := hide hb
    clear hg hp hq hb HS12 HS2 HB2
    by_cases hlt : k < len0
    · by_cases h20 : k < 20
      · obtain ⟨b, o, ai, ci, rfl, hcell, hsl, hbl⟩ := rows_in H0.out HB.out k hlt
        have HD := hide hsl
        clear hsl
        by_cases h480 : 480 < (B0 k).length
        · have HA := hide (awake_any wr)
          have hlg : (480 : Int) < ((B0 k).length : Int) := by omega
          generalize (B0 k).length = D at *
          go_wp2_with (go_at_call 17; refine HA.out.mono ?_; rintro e W3 ⟨rfl, hb3⟩)
          go_ret
          exact ⟨rfl, HB.out.trans (hb3.mono HB.out.size)⟩
        · have hlg : ¬ (480 : Int) < ((B0 k).length : Int) := by omega
          by_cases hc : g.can (B0 k)
          · have HGP := hide (can_good HG.out hc)
            have HX := hide (put_ok HG.out HP.out HD.out hc)
            have HC := hide hc
            clear hc
            generalize hD : (B0 k).length = D at *
            go_wp2_with fail
            refine HX.out.mono ?_
            rintro e W3 ⟨ax, cx, rfl, hs3, hb3⟩
            have hcell3 := (hb3.cell (World.block_lt_of_cell? wr _ hcell)).trans hcell
            have HY := hide (put_ok HG.out (HQ.out.belowW hb3) (HD.out.belowW hb3) HC.out)
            have HS3 := hide hs3
            have HB3 := hide (HB.out.trans (hb3.mono HB.out.size))
            clear HX hs3 hb3
            go_wp2_with fail
            refine HY.out.mono ?_
            rintro e W4 ⟨ay, cy, rfl, hs4, hb4⟩
            have hs34 := HS3.out.belowW hb4
            have cx4 := run_str hs34
            have cy4 := run_str hs4
            have HS34 := hide hs34
            have HS4 := hide hs4
            have HB4 := hide (HB3.out.trans (hb4.mono HB3.out.size))
            clear HY hs4 hb4 hs34 HS3 HB3
            generalize hG2 : g.put (B0 k) = g2 at *
            generalize strOf g2.enc = st at *
            by_cases hm : k < len1
            · have hmI : (k : Int) < (len1 : Int) := by omega
              obtain ⟨bm, om, am, cm, rfl, mcell, hml, hmb⟩ := rows_in H1.out HB4.out k hm
              have HM := hide hml
              clear hml
              by_cases hc2 : g2.can (B1 k)
              · have HZ := hide (put_ok HGP.out HS4.out HM.out hc2)
                have HGZ := hide (can_good HGP.out hc2)
                go_wp2_with fail
                refine HZ.out.mono ?_
                rintro e W5 ⟨az, cz, rfl, hs5, hb5⟩
                have hat : (g2.put (B1 k)).sl.getD g2.least none = some (B1 k) := at_put (g := g2) (B1 k)
                have HDL := hide (del_ok HGZ.out hs5 hat)
                have hdp := del_put HGP.out (B1 k)
                rw [hdp] at HDL
                have HS35 := hide (HS34.out.belowW hb5)
                have HB5 := hide (HB4.out.trans (hb5.mono HB4.out.size))
                clear HZ hs5 hb5 hat hdp cx4 cy4
                generalize g2.least = le at *
                go_wp2_with fail
                refine HDL.out.mono ?_
                rintro e W6 ⟨aw, cw, rfl, hs6, hb6⟩
                have hs36 := HS35.out.belowW hb6
                have cx6 := run_str hs36
                have cw6 := run_str hs6
                have HS36 := hide hs36
                have HS6 := hide hs6
                have HB6 := hide (HB5.out.trans (hb6.mono HB5.out.size))
                clear HDL hs6 hb6 hs36
                generalize strOf g2.enc = st2 at *
                go_wp2
                go_roundw
                case rel => exact ⟨k + 1, g2, _, _, _, _, by omega, by go_num, rfl, rfl, HGP.out, HS36.out, HS6.out, HB6.out⟩
                case measure => simp [intOf]; omega
              · have HZ := hide (put_no HGP.out HS4.out HM.out hc2)
                have hne := err_ne g2 (B1 k)
                generalize g2.err (B1 k) = er at *
                go_wp2_with (go_at_call 9; refine HZ.out.mono ?_; rintro e W5 ⟨rfl, hb5⟩)
                go_roundw
                case rel => exact ⟨k + 1, g2, _, _, _, _, by omega, by go_num, rfl, rfl, HGP.out, HS34.out.belowW hb5, HS4.out.belowW hb5, HB4.out.trans (hb5.mono HB4.out.size)⟩
                case measure => simp [intOf]; omega
            · have hmI : ¬ (k : Int) < (len1 : Int) := by omega
              go_wp2
              go_roundw
              case rel => exact ⟨k + 1, g2, _, _, _, _, by omega, by go_num, rfl, rfl, HGP.out, HS34.out, HS4.out, HB4.out⟩
              case measure => simp [intOf]; omega
          · have HX := hide (put_no HG.out HP.out HD.out hc)
            have hne := err_ne g (B0 k)
            have HC := hide hc
            clear hc
            have HY0 : Hid (∀ W, Below wr.heap.size wr W → Calls Try.prog 9 #[.slice aq 504 cq, .slice ai (B0 k).length ci] W fun e w' => e = .returned (.tuple #[.int .i64 0, .slice none 0 0, .int .i64 (g.err (B0 k))]) ∧ Below W.heap.size W w') := fun W hb => put_no HG.out (HQ.out.belowW hb) (HD.out.belowW hb) HC.out
            generalize g.err (B0 k) = er at *
            generalize hD : (B0 k).length = D at *
            go_wp2_with fail
            refine HX.out.mono ?_
            rintro e W3 ⟨rfl, hb3⟩
            have hcell3 := (hb3.cell (World.block_lt_of_cell? wr _ hcell)).trans hcell
            have HB3 := hide hb3
            clear HX hb3
            go_wp2_with (go_at_call 9; refine (HY0.out _ HB3.out).mono ?_; rintro e W4 ⟨rfl, hb4⟩)
            go_roundw
            case rel => exact ⟨k + 1, g, _, _, _, _, by omega, by go_num, rfl, rfl, HG.out, (HP.out.belowW HB3.out).belowW hb4, (HQ.out.belowW HB3.out).belowW hb4, (HB.out.trans (HB3.out.mono HB.out.size)).trans (hb4.mono (Nat.le_trans HB.out.size HB3.out.size))⟩
            case measure => simp [intOf]; omega
      · have cp0 := run_str HP.out
        have cq0 := run_str HQ.out
        have HA := hide (awake_any wr)
        generalize strOf g.enc = st at *
        go_wp2_with (go_at_call 17; refine HA.out.mono ?_; rintro e W3 ⟨rfl, hb3⟩)
        go_ret
        exact ⟨rfl, HB.out.trans (hb3.mono HB.out.size)⟩
    · have hkl : k = len0 := by omega
      subst hkl
      have cp0 := run_str HP.out
      have cq0 := run_str HQ.out
      have HA := hide (awake_any wr)
      generalize strOf g.enc = st at *
      go_wp2_with (go_at_call 17; refine HA.out.mono ?_; rintro e W3 ⟨rfl, hb3⟩)
      go_ret
      exact ⟨rfl, HB.out.trans (hb3.mono HB.out.size)⟩
end Go.Proofs.Ytdddeneppciiiaa
