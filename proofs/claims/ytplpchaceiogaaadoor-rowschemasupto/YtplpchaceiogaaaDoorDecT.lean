/- text: the text that bytes begin with. -/
import Derived.Test.YtplpchaceiogaaaDoorDecP
namespace Go.Proofs.YtplpchaceiogaaaDoor
set_option maxRecDepth 100000
open Go.RowKit
set_option linter.unusedVariables false
set_option linter.unusedSimpArgs false

def textV (bs : List UInt8) : Value := match decA [] 0 bs with
  | none => .tuple #[.string { data := #[] }, .int .i64 0, .bool false]
  | some p => .tuple #[.string (strOf p.1), .int .i64 (p.2 : Int), .bool true]
theorem drop_one (bs : List UInt8) (k : Nat) (h : k < bs.length) : bs.drop k = bs.getD k 0 :: bs.drop (k + 1) := by
  rw [List.drop_eq_getElem_cons h]
  simp [h]
set_option maxHeartbeats 4000000 in
theorem text_any {w : World} {v : Value} {bs : List UInt8} (h : Sl w v bs) (hl : bs.length ≤ 500000000) :
    Calls Tryd.prog 77 #[v] w fun e w' => e = .returned (textV bs) ∧ Below w.heap.size w w' := by
  obtain ⟨ao, c, rfl, hc1, hc2⟩ := h.len
  simp only [maxLen] at hc2
  have H := hide h
  have HD : Hid (∀ k, k < bs.length → bs.drop k = bs.getD k 0 :: bs.drop (k + 1)) := fun k hk => drop_one bs k hk
  have HN : Hid (bs.drop bs.length = []) := by simp [Hid]
  clear h
  generalize hL : bs.length = L at *
  have HLE := hide hL
  go_enter Tryd.func77, Tryd.ntmps77
  go_wp2
  refine wp_scope_fwd 1 ?_
  go_wp2
  go_loopw [3, 5] (fun i u wr => ∃ (k : Nat) (acc : List UInt8), k ≤ L ∧ i = .int .i64 (k : Int) ∧ acc.length ≤ k ∧ decA acc k (bs.drop k) = decA [] 0 bs ∧ Bts w wr u acc) (fun i _ _ => L - (intOf i).toNat)
  case atStart => exact ⟨0, [], by omega, rfl, by simp, by simp, Bts.nil (Below.refl _ _)⟩
  case round =>
    obtain ⟨k, acc, hk, rfl, hal, hdec, hB⟩ := hrel
    have HB := hide hB
    have HDE := hide hdec
    clear hB hdec
    by_cases hlt : k < L
    · obtain ⟨g, o, hao, k1⟩ := (H.out.belowW HB.out.below).get k (by omega)
      subst hao
      have HDk := hide (HD.out k hlt)
      have hb := build1
      by_cases hx : bs.getD k 0 = 0
      · rw [hx] at k1 HDk
        have k1 : wr.cell? ⟨g, o + k, none⟩ = some (.int .u8 0) := k1
        clear hx hL
        by_cases hlt2 : k + 1 < L
        · obtain ⟨g', o', hao, k2⟩ := (H.out.belowW HB.out.below).get (k + 1) (by rw [HLE.out]; exact hlt2)
          injection hao with hao
          injection hao with e1 e2
          subst e1 e2
          have HDk1 := hide (HD.out (k + 1) hlt2)
          by_cases hy0 : bs.getD (k + 1) 0 = 0
          · rw [hy0] at k2 HDk1
            have k2 : wr.cell? ⟨g, o + (k + 1), none⟩ = some (.int .u8 0) := k2
            have HV : Hid (textV bs = .tuple #[.string (strOf acc), .int .i64 ((k : Int) + 2), .bool true]) := by
              unfold Hid textV
              rw [← HDE.out, HDk.out, HDk1.out, decA_zz]
              rfl
            have HST := hide (HB.out.sl)
            obtain ⟨au, cu, eu, _, _⟩ := HST.out.len
            rw [eu] at HST
            subst eu
            have hconv := run_str HST.out
            clear hy0 HDk1 HDk
            go_wp2
            go_step3
            refine ⟨_, rfl, ?_⟩
            go_wp2
            rw [Exit.jumps_ret]
            refine bodyPost_ret (results_tmp3 rfl _ _ _) rfl ?_
            rw [HV.out]
            exact ⟨rfl, HB.out.below⟩
          · by_cases hy1 : bs.getD (k + 1) 0 = 255
            · rw [hy1] at k2 HDk1
              have k2 : wr.cell? ⟨g, o + (k + 1), none⟩ = some (.int .u8 255) := k2
              have HX : Hid (∀ w : World, Sl (w.alloc (.cells #[.int .u8 0] 5)) (.slice (some ⟨w.heap.size, 0, none⟩) 1 1) [0]) := fun w => sl1 w 0
              clear hy0 hy1
              go_wp2_with (refine wpList_append_bts rfl (.tmp 37) (.tmp 39) rfl w _ _ _ _ rfl rfl (HB.out.alloc _) (HX.out _) (by simp; omega) ?_; intro u3 W3 hB3 hg3)
              go_roundw
              case rel =>
                refine ⟨k + 2, acc ++ [0], by omega, by go_num, by simp; omega, ?_, hB3⟩
                rw [← HDE.out, HDk.out, HDk1.out, decA_zf]
              case measure => simp [intOf]; omega
            · have hn0 := u8_ne _ hy0
              have hn1 : (((bs.getD (k + 1) 0).toNat : Int) == 255) = false := beq_eq_false_iff_ne.2 fun e => hy1 (UInt8.toNat_inj.1 (by show _ = 255; omega))
              have HV : Hid (textV bs = .tuple #[.string { data := #[] }, .int .i64 0, .bool false]) := by
                unfold Hid textV
                rw [← HDE.out, HDk.out, HDk1.out, decA_zx _ _ _ _ hy0 hy1]
              clear hy0 hy1 HDk1 HDk
              generalize ((bs.getD (k + 1) 0).toNat : Int) = y at *
              go_wp2
              go_step3
              refine ⟨_, rfl, ?_⟩
              go_wp2
              rw [Exit.jumps_ret]
              refine bodyPost_ret (results_tmp3 rfl _ _ _) rfl ?_
              rw [HV.out]
              exact ⟨rfl, HB.out.below⟩
        · have hk1 : k + 1 = L := by omega
          have HV : Hid (textV bs = .tuple #[.string { data := #[] }, .int .i64 0, .bool false]) := by
            unfold Hid textV
            rw [← HDE.out, HDk.out, hk1, HN.out, decA_z]
          clear hk1 HDk
          go_wp2
          go_step3
          refine ⟨_, rfl, ?_⟩
          go_wp2
          rw [Exit.jumps_ret]
          refine bodyPost_ret (results_tmp3 rfl _ _ _) rfl ?_
          rw [HV.out]
          exact ⟨rfl, HB.out.below⟩
      · have hne := u8_ne _ hx
        have HX := hide (fun w => sl1 w (bs.getD k 0))
        have HDX : Hid (decA acc k (bs.getD k 0 :: bs.drop (k + 1)) = decA (acc ++ [bs.getD k 0]) (k + 1) (bs.drop (k + 1))) := decA_nz _ _ _ _ hx
        clear hL hx
        generalize bs.getD k 0 = x at *
        generalize (x.toNat : Int) = xi at *
        go_wp2_with (refine wpList_append_bts rfl (.tmp 17) (.tmp 19) rfl w _ _ _ _ rfl rfl (HB.out.alloc _) (HX.out _) (by simp; omega) ?_; intro u3 W3 hB3 hg3)
        go_roundw
        case rel =>
          refine ⟨k + 1, acc ++ [x], by omega, by go_num, by simp; omega, ?_, hB3⟩
          rw [← HDE.out, HDk.out, HDX.out]
        case measure => simp [intOf]; omega
    · have hkL : k = L := by omega
      have HV : Hid (textV bs = .tuple #[.string { data := #[] }, .int .i64 0, .bool false]) := by
        unfold Hid textV
        rw [← HDE.out, hkL, HN.out, decA_nil]
      subst hkL
      clear hL
      go_wp2
      go_step3
      go_wp2
      rw [Exit.jumps_ret]
      refine bodyPost_ret (results_tmp3 rfl _ _ _) rfl ?_
      rw [HV.out]
      exact ⟨rfl, HB.out.below⟩
end Go.Proofs.YtplpchaceiogaaaDoor
