/- addText: a text's bytes laid behind others. -/
import Derived.Test.YtigafjdacllohaaDoorAdd
namespace Go.Proofs.YtigafjdacllohaaDoor
open Go.RowKit
set_option linter.unusedVariables false
set_option linter.unusedSimpArgs false

theorem esc_take {t : List UInt8} {k : Nat} (h : k < t.length) : esc (t.take (k + 1)) = esc (t.take k) ++ escB (t.getD k 0) := by
  rw [List.take_succ_eq_append_getElem h, esc_snoc]
  simp [h]
theorem length_esc_take (t : List UInt8) (k : Nat) (h : k ≤ t.length) : (esc (t.take k)).length ≤ 2 * k := by
  have := length_esc (t.take k)
  rw [List.length_take] at this
  omega
theorem u8_ne (c : UInt8) (h : c ≠ 0) : ((c.toNat : Int) == 0) = false := by
  refine beq_eq_false_iff_ne.2 fun e => h (UInt8.toNat_inj.1 ?_)
  show c.toNat = 0
  omega
set_option maxHeartbeats 2000000 in
set_option maxRecDepth 100000 in
theorem addText_any {w0 w : World} {u : Value} {X : List UInt8} (h : Bts w0 w u X) (t : List UInt8) (hl : X.length + 2 * t.length + 2 ≤ 1000000000) :
    Calls Tryd.prog 69 #[u, .string (strOf t)] w fun e w' => ∃ u', e = .returned u' ∧ Bts w0 w' u' (X ++ (esc t ++ [0, 0])) ∧ Oth w w' := by
  have HB := hide h
  have hsz := strOf_size t
  have HI : Hid (∀ w k, k < t.length → (Instr.index 9 (.string (strOf t)) (.int .i64 (k : Int))).run Tryd.prog w = .ok (.int .u8 ((t.getD k 0).toNat : Int)) w) := fun w k hk => run_idx w t k hk
  have HE : Hid (∀ k, k < t.length → esc (t.take (k + 1)) = esc (t.take k) ++ escB (t.getD k 0)) := fun k hk => esc_take hk
  have HLE : Hid (∀ k, k ≤ t.length → (X ++ esc (t.take k)).length ≤ X.length + 2 * k) := fun k hk => by have := length_esc_take t k hk; rw [List.length_append]; omega
  have HTL : Hid (t.take t.length = t) := List.take_length
  clear h
  generalize hL : t.length = L at *
  generalize hst : strOf t = st at *
  clear hst
  go_enter Tryd.func69, Tryd.ntmps69
  go_wp2
  go_loopw [8, 0] (fun i u wr => ∃ k : Nat, k ≤ L ∧ i = .int .i64 (k : Int) ∧ Bts w0 wr u (X ++ esc (t.take k)) ∧ Oth w wr) (fun i _ _ => L - (intOf i).toNat)
  case atStart => exact ⟨0, by omega, rfl, by simpa [esc] using HB.out, Oth.refl _⟩
  case round =>
    obtain ⟨k, hk, rfl, hB, hO⟩ := hrel
    have HB2 := hide hB
    have HO := hide hO
    clear hB HB hO
    have HLk := hide (HLE.out k hk)
    by_cases hlt : k < L
    · have hi := fun w => HI.out w k hlt
      have HEk := hide (HE.out k hlt)
      have hb := build1
      by_cases hc : t.getD k 0 = 0
      · rw [hc] at hi HEk
        have hi : ∀ w, (Instr.index 9 (.string st) (.int .i64 (k : Int))).run Tryd.prog w = .ok (.int .u8 0) w := hi
        have HX : Hid (∀ w : World, Sl (w.alloc (.cells #[.int .u8 0] 5)) (.slice (some ⟨w.heap.size, 0, none⟩) 1 1) [0]) := fun w => sl1 w 0
        have HX2 : Hid (∀ w : World, Sl (w.alloc (.cells #[.int .u8 255] 5)) (.slice (some ⟨w.heap.size, 0, none⟩) 1 1) [255]) := fun w => sl1 w 255
        clear hc hL
        go_upto_region 5 with (refine wpList_append_bts rfl (.tmp 11) (.tmp 15) rfl w0 _ _ _ _ rfl rfl (HB2.out.alloc _) (HX.out _) (by have := HLk.out; simp; simp at this; omega) ?_; intro u3 W3 hB3 hg3)
        have HB3 := hide hB3
        have HO3 := hide ((HO.out.alloc _).grown (HB2.out.alloc _).own hg3)
        clear hB3 hg3
        go_wp2_with (refine wpList_append_bts rfl (.tmp 21) (.tmp 22) rfl w0 _ _ _ _ rfl rfl (HB3.out.alloc _) (HX2.out _) (by have := HLk.out; simp; simp at this; omega) ?_; intro u4 W4 hB4 hg4)
        go_roundw
        case rel =>
          refine ⟨k + 1, by omega, by go_num, ?_, (HO3.out.alloc _).grown (HB3.out.alloc _).own hg4⟩
          have := hB4
          rw [List.append_assoc, List.append_assoc] at this
          rw [HEk.out]
          exact this
        case measure => simp [intOf]; omega
      · have hne := u8_ne _ hc
        have HX := hide (fun w => sl1 w (t.getD k 0))
        have HES : Hid (escB (t.getD k 0) = [t.getD k 0]) := by unfold Hid escB; rw [if_neg hc]
        clear hL
        generalize t.getD k 0 = c at *
        generalize hcn : (c.toNat : Int) = cn at *
        clear hcn hc
        go_upto_region 5 with (refine wpList_append_bts rfl (.tmp 11) (.tmp 15) rfl w0 _ _ _ _ rfl rfl (HB2.out.alloc _) (HX.out _) (by have := HLk.out; simp; simp at this; omega) ?_; intro u3 W3 hB3 hg3)
        go_wp2
        go_roundw
        case rel =>
          refine ⟨k + 1, by omega, by go_num, ?_, (HO.out.alloc _).grown (HB2.out.alloc _).own hg3⟩
          have := hB3
          rw [List.append_assoc] at this
          rw [HEk.out, HES.out]
          exact this
        case measure => simp [intOf]; omega
    · have hkL : k = L := by omega
      subst hkL
      rw [HTL.out] at HB2 HLk
      have hb := build2
      have HX : Hid (∀ w : World, Sl (w.alloc (.cells #[.int .u8 0, .int .u8 0] 5)) (.slice (some ⟨w.heap.size, 0, none⟩) 2 2) [0, 0]) := fun w => sl2 w 0 0
      clear hL
      go_wp2_with (refine wpList_append_bts rfl (.tmp 25) (.tmp 26) rfl w0 _ _ _ _ rfl rfl (HB2.out.alloc _) (HX.out _) (by have := HLk.out; simp; simp at this; omega) ?_; intro u3 W3 hB3 hg3)
      go_ret
      refine ⟨_, rfl, ?_, (HO.out.alloc _).grown (HB2.out.alloc _).own hg3⟩
      rw [← List.append_assoc]
      exact hB3
end Go.Proofs.YtigafjdacllohaaDoor
