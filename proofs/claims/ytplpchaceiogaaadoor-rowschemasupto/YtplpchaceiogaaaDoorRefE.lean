/- The document's Encode and Join. -/
import Derived.Test.YtplpchaceiogaaaDoorVals
namespace Go.Proofs.YtplpchaceiogaaaDoor
set_option maxRecDepth 100000
open Go.RowKit
set_option linter.unusedVariables false
set_option linter.unusedSimpArgs false

theorem bts_new (w0 w : World) (hb : Below w0.heap.size w0 w) (c : UInt8) : Bts w0 (w.alloc (.cells #[.int .u8 (c.toNat : Int)] 5)) (.slice (some ⟨w.heap.size, 0, none⟩) 1 1) [c] :=
  ⟨hb.alloc hb.size _, by simp [secCells], .inr ⟨w.heap.size, 1, _, rfl, hb.size, heap_alloc_new w _, Nat.le_refl _, by simp only [maxLen]; omega, by simp, by simp [secCells, bcell]⟩⟩
theorem bts_new2 (w0 w : World) (hb : Below w0.heap.size w0 w) (c d : UInt8) : Bts w0 (w.alloc (.cells #[.int .u8 (c.toNat : Int), .int .u8 (d.toNat : Int)] 5)) (.slice (some ⟨w.heap.size, 0, none⟩) 2 2) [c, d] :=
  ⟨hb.alloc hb.size _, by simp [secCells], .inr ⟨w.heap.size, 2, _, rfl, hb.size, heap_alloc_new w _, Nat.le_refl _, by simp only [maxLen]; omega, by simp, by simp [secCells, bcell]⟩⟩
set_option maxHeartbeats 8000000 in
theorem rencode_any (w0 w : World) (hb : Below w0.heap.size w0 w) (V : Vl) (hV : V.wf) (hl : 2 * V.t.length + 20 ≤ 500000000) :
    Calls Tryd.prog 58 #[valOf V] w fun e w' => ∃ u', e = .returned u' ∧ Bts w0 w' u' (enc V) ∧ Oth w w' := by
  obtain ⟨W1, hW1⟩ : ∃ W1, w.alloc (.cells #[.int .i64 V.ty, .int .i64 V.n, .string (strOf V.t), .bool V.b] 32) = W1 := ⟨_, rfl⟩
  have HX : Hid (Box W1 w.heap.size V) := by rw [← hW1]; exact box_new w V
  have HOA : Hid (Oth w W1) := by rw [← hW1]; exact (Oth.refl w).alloc _
  have HB1 : Hid (Below w0.heap.size w0 W1) := by rw [← hW1]; exact hb.alloc hb.size _
  unfold valOf
  clear hb
  go_enter Tryd.func58, Tryd.ntmps58
  go_upto_region 1 with fail
  try rw [hW1]
  clear hW1
  generalize w.heap.size = b at *
  obtain ⟨c0, c1, c2, c3⟩ := HX.out.cells
  have hbl := lt_of_heap HX.out
  by_cases h1 : V.ty = 1
  · have HEN : Hid (enc V = 1 :: be 8 (turn V.n)) := by unfold Hid enc; rw [if_pos h1]
    rw [h1] at c0
    have hx := xor_turn hV.2
    have hT := turn_lt hV.2
    have hb1 := build1
    have HN : Hid (Bts w0 (W1.alloc (.cells #[.int .u8 1] 5)) (.slice (some ⟨W1.heap.size, 0, none⟩) 1 1) [1]) := bts_new w0 W1 HB1.out 1
    have HTK : Hid (∀ k, k < 8 → (be 8 (turn V.n)).take (k + 1) = (be 8 (turn V.n)).take k ++ [byteAt (turn V.n) k]) := fun k hk => be8_take _ _ hk
    have HTL : Hid ((be 8 (turn V.n)).take 8 = be 8 (turn V.n)) := by rw [Hid, List.take_of_length_le (by rw [length_be]; omega)]
    have HLL : Hid (∀ k, k ≤ 8 → (1 :: (be 8 (turn V.n)).take k).length = 1 + k) := fun k hk => by rw [List.length_cons, List.length_take, length_be]; omega
    have HO1 : Hid (Oth w (W1.alloc (.cells #[.int .u8 1] 5))) := HOA.out.alloc _
    clear h1
    generalize turn V.n = T at *
    go_wp2
    go_loopw [5, 3] (fun i u wr => ∃ k : Nat, k ≤ 8 ∧ i = .int .i64 (7 - (k : Int)) ∧ Bts w0 wr u (1 :: (be 8 T).take k) ∧ Oth w wr) (fun i _ _ => ((intOf i) + 1).toNat)
    case atStart => exact ⟨0, by omega, rfl, HN.out, HO1.out⟩
    case round =>
      obtain ⟨k, hk, rfl, hB, hO⟩ := hrel
      have HB2 := hide hB
      have HO := hide hO
      clear hB hO HN HO1
      by_cases hlt : k < 8
      · rcases (by omega : k = 0 ∨ k = 1 ∨ k = 2 ∨ k = 3 ∨ k = 4 ∨ k = 5 ∨ k = 6 ∨ k = 7) with rfl | rfl | rfl | rfl | rfl | rfl | rfl | rfl
        · have hc : (T : Int) / 72057594037927936 = ((byteAt T 0).toNat : Int) := by
            have := byteAt_nat T 0
            have e : 256 ^ (7 - 0) = 72057594037927936 := by decide
            rw [e] at this
            omega
          have HXs := hide (sl1 wr (byteAt T 0))
          rw [← hc] at HXs
          clear hc
          have HLk := hide (HLL.out 0 (by omega))
          go_wp2_with (refine wpList_append_bts rfl (.tmp 21) (.tmp 27) rfl w0 _ _ _ _ rfl rfl (HB2.out.alloc _) HXs.out (by rw [HLk.out]; simp) ?_; intro u' W3 hB3 hg3)
          go_roundw
          case rel =>
            refine ⟨1, by omega, by go_num, ?_, (HO.out.alloc _).grown (HB2.out.alloc _).own hg3⟩
            rw [HTK.out 0 (by omega)]
            exact hB3
          case measure => simp [intOf]
        · have hc : (T : Int) / 281474976710656 % 256 = ((byteAt T 1).toNat : Int) := by
            have := byteAt_nat T 1
            have e : 256 ^ (7 - 1) = 281474976710656 := by decide
            rw [e] at this
            omega
          have HXs := hide (sl1 wr (byteAt T 1))
          rw [← hc] at HXs
          clear hc
          have HLk := hide (HLL.out 1 (by omega))
          go_wp2_with (refine wpList_append_bts rfl (.tmp 21) (.tmp 27) rfl w0 _ _ _ _ rfl rfl (HB2.out.alloc _) HXs.out (by rw [HLk.out]; simp) ?_; intro u' W3 hB3 hg3)
          go_roundw
          case rel =>
            refine ⟨2, by omega, by go_num, ?_, (HO.out.alloc _).grown (HB2.out.alloc _).own hg3⟩
            rw [HTK.out 1 (by omega)]
            exact hB3
          case measure => simp [intOf]
        · have hc : (T : Int) / 1099511627776 % 256 = ((byteAt T 2).toNat : Int) := by
            have := byteAt_nat T 2
            have e : 256 ^ (7 - 2) = 1099511627776 := by decide
            rw [e] at this
            omega
          have HXs := hide (sl1 wr (byteAt T 2))
          rw [← hc] at HXs
          clear hc
          have HLk := hide (HLL.out 2 (by omega))
          go_wp2_with (refine wpList_append_bts rfl (.tmp 21) (.tmp 27) rfl w0 _ _ _ _ rfl rfl (HB2.out.alloc _) HXs.out (by rw [HLk.out]; simp) ?_; intro u' W3 hB3 hg3)
          go_roundw
          case rel =>
            refine ⟨3, by omega, by go_num, ?_, (HO.out.alloc _).grown (HB2.out.alloc _).own hg3⟩
            rw [HTK.out 2 (by omega)]
            exact hB3
          case measure => simp [intOf]
        · have hc : (T : Int) / 4294967296 % 256 = ((byteAt T 3).toNat : Int) := by
            have := byteAt_nat T 3
            have e : 256 ^ (7 - 3) = 4294967296 := by decide
            rw [e] at this
            omega
          have HXs := hide (sl1 wr (byteAt T 3))
          rw [← hc] at HXs
          clear hc
          have HLk := hide (HLL.out 3 (by omega))
          go_wp2_with (refine wpList_append_bts rfl (.tmp 21) (.tmp 27) rfl w0 _ _ _ _ rfl rfl (HB2.out.alloc _) HXs.out (by rw [HLk.out]; simp) ?_; intro u' W3 hB3 hg3)
          go_roundw
          case rel =>
            refine ⟨4, by omega, by go_num, ?_, (HO.out.alloc _).grown (HB2.out.alloc _).own hg3⟩
            rw [HTK.out 3 (by omega)]
            exact hB3
          case measure => simp [intOf]
        · have hc : (T : Int) / 16777216 % 256 = ((byteAt T 4).toNat : Int) := by
            have := byteAt_nat T 4
            have e : 256 ^ (7 - 4) = 16777216 := by decide
            rw [e] at this
            omega
          have HXs := hide (sl1 wr (byteAt T 4))
          rw [← hc] at HXs
          clear hc
          have HLk := hide (HLL.out 4 (by omega))
          go_wp2_with (refine wpList_append_bts rfl (.tmp 21) (.tmp 27) rfl w0 _ _ _ _ rfl rfl (HB2.out.alloc _) HXs.out (by rw [HLk.out]; simp) ?_; intro u' W3 hB3 hg3)
          go_roundw
          case rel =>
            refine ⟨5, by omega, by go_num, ?_, (HO.out.alloc _).grown (HB2.out.alloc _).own hg3⟩
            rw [HTK.out 4 (by omega)]
            exact hB3
          case measure => simp [intOf]
        · have hc : (T : Int) / 65536 % 256 = ((byteAt T 5).toNat : Int) := by
            have := byteAt_nat T 5
            have e : 256 ^ (7 - 5) = 65536 := by decide
            rw [e] at this
            omega
          have HXs := hide (sl1 wr (byteAt T 5))
          rw [← hc] at HXs
          clear hc
          have HLk := hide (HLL.out 5 (by omega))
          go_wp2_with (refine wpList_append_bts rfl (.tmp 21) (.tmp 27) rfl w0 _ _ _ _ rfl rfl (HB2.out.alloc _) HXs.out (by rw [HLk.out]; simp) ?_; intro u' W3 hB3 hg3)
          go_roundw
          case rel =>
            refine ⟨6, by omega, by go_num, ?_, (HO.out.alloc _).grown (HB2.out.alloc _).own hg3⟩
            rw [HTK.out 5 (by omega)]
            exact hB3
          case measure => simp [intOf]
        · have hc : (T : Int) / 256 % 256 = ((byteAt T 6).toNat : Int) := by
            have := byteAt_nat T 6
            have e : 256 ^ (7 - 6) = 256 := by decide
            rw [e] at this
            omega
          have HXs := hide (sl1 wr (byteAt T 6))
          rw [← hc] at HXs
          clear hc
          have HLk := hide (HLL.out 6 (by omega))
          go_wp2_with (refine wpList_append_bts rfl (.tmp 21) (.tmp 27) rfl w0 _ _ _ _ rfl rfl (HB2.out.alloc _) HXs.out (by rw [HLk.out]; simp) ?_; intro u' W3 hB3 hg3)
          go_roundw
          case rel =>
            refine ⟨7, by omega, by go_num, ?_, (HO.out.alloc _).grown (HB2.out.alloc _).own hg3⟩
            rw [HTK.out 6 (by omega)]
            exact hB3
          case measure => simp [intOf]
        · have hc : (T : Int) % 256 = ((byteAt T 7).toNat : Int) := by
            have := byteAt_nat T 7
            have e : 256 ^ (7 - 7) = 1 := by decide
            rw [e] at this
            omega
          have HXs := hide (sl1 wr (byteAt T 7))
          rw [← hc] at HXs
          clear hc
          have HLk := hide (HLL.out 7 (by omega))
          go_wp2_with (refine wpList_append_bts rfl (.tmp 21) (.tmp 27) rfl w0 _ _ _ _ rfl rfl (HB2.out.alloc _) HXs.out (by rw [HLk.out]; simp) ?_; intro u' W3 hB3 hg3)
          go_roundw
          case rel =>
            refine ⟨8, by omega, by go_num, ?_, (HO.out.alloc _).grown (HB2.out.alloc _).own hg3⟩
            rw [HTK.out 7 (by omega)]
            exact hB3
          case measure => simp [intOf]
      · have hk8 : k = 8 := by omega
        subst hk8
        go_wp2
        go_ret
        refine ⟨_, rfl, ?_, HO.out⟩
        rw [HEN.out]
        have := HB2.out
        rw [HTL.out] at this
        exact this
  · by_cases h2 : V.ty = 2
    · have HEN : Hid (enc V = 2 :: (esc V.t ++ [0, 0])) := by unfold Hid enc; rw [if_neg h1, if_pos h2]
      rw [h2] at c0
      have hsz := strOf_size V.t
      have HI : Hid (∀ w k, k < V.t.length → (Instr.index 9 (.string (strOf V.t)) (.int .i64 (k : Int))).run Tryd.prog w = .ok (.int .u8 ((V.t.getD k 0).toNat : Int)) w) := fun w k hk => run_idx w V.t k hk
      have HE : Hid (∀ k, k < V.t.length → esc (V.t.take (k + 1)) = esc (V.t.take k) ++ escB (V.t.getD k 0)) := fun k hk => esc_take hk
      have HLE : Hid (∀ k, k ≤ V.t.length → (2 :: esc (V.t.take k)).length ≤ 1 + 2 * k) := fun k hk => by have := length_esc_take V.t k hk; rw [List.length_cons]; omega
      have HTL : Hid (V.t.take V.t.length = V.t) := List.take_length
      have hb1 := build1
      have HN : Hid (Bts w0 (W1.alloc (.cells #[.int .u8 2] 5)) (.slice (some ⟨W1.heap.size, 0, none⟩) 1 1) [2]) := bts_new w0 W1 HB1.out 2
      have HO1 : Hid (Oth w (W1.alloc (.cells #[.int .u8 2] 5))) := HOA.out.alloc _
      have HXn : Hid (Box (W1.alloc (.cells #[.int .u8 2] 5)) b V) := HX.out.belowW ((Below.refl _ _).alloc (Nat.le_refl _) _)
      generalize hL : V.t.length = L at *
      generalize hst : strOf V.t = st at *
      have HST := hide hst
      clear hst hL h1 h2
      go_wp2
      go_loopw [7, 6] (fun i u wr => ∃ k : Nat, k ≤ L ∧ i = .int .i64 (k : Int) ∧ Bts w0 wr u (2 :: esc (V.t.take k)) ∧ Oth w wr ∧ Box wr b V) (fun i _ _ => L - (intOf i).toNat)
      case atStart => exact ⟨0, by omega, rfl, by simpa [esc] using HN.out, HO1.out, HXn.out⟩
      case round =>
        obtain ⟨k, hk, rfl, hB, hO, hX⟩ := hrel
        have HB2 := hide hB
        have HO := hide hO
        have HX2 := hide hX
        clear hB hO hX HN HO1 HXn c0 c1 c2 c3
        have HLk := hide (HLE.out k hk)
        have c2 := HX2.out.cells.2.2.1
        rw [HST.out] at c2
        by_cases hlt : k < L
        · have hi := fun w => HI.out w k hlt
          have HEk := hide (HE.out k hlt)
          by_cases hc : V.t.getD k 0 = 0
          · rw [hc] at hi HEk
            have hi : ∀ w, (Instr.index 9 (.string st) (.int .i64 (k : Int))).run Tryd.prog w = .ok (.int .u8 0) w := hi
            have HXs : Hid (∀ w : World, Sl (w.alloc (.cells #[.int .u8 0] 5)) (.slice (some ⟨w.heap.size, 0, none⟩) 1 1) [0]) := fun w => sl1 w 0
            have HX5 : Hid (∀ w : World, Sl (w.alloc (.cells #[.int .u8 255] 5)) (.slice (some ⟨w.heap.size, 0, none⟩) 1 1) [255]) := fun w => sl1 w 255
            clear hc
            go_upto_region 16 with (refine wpList_append_bts rfl (.tmp 40) (.tmp 45) rfl w0 _ _ _ _ rfl rfl (HB2.out.alloc _) (HXs.out _) (by have := HLk.out; simp; simp at this; omega) ?_; intro u3 W3 hB3 hg3)
            have HB3 := hide hB3
            have HX3 : Hid (Box W3 b V) := grown_rec (HB2.out.alloc _).own hg3 (HX2.out.belowW ((Below.refl _ _).alloc (Nat.le_refl _) _)) (by decide)
            have HO3 := hide ((HO.out.alloc _).grown (HB2.out.alloc _).own hg3)
            clear hB3 hg3 c2
            have c2 := HX3.out.cells.2.2.1
            rw [HST.out] at c2
            go_wp2_with (refine wpList_append_bts rfl (.tmp 52) (.tmp 53) rfl w0 _ _ _ _ rfl rfl (HB3.out.alloc _) (HX5.out _) (by have := HLk.out; simp; simp at this; omega) ?_; intro u4 W4 hB4 hg4)
            go_roundw
            case rel =>
              refine ⟨k + 1, by omega, by go_num, ?_, (HO3.out.alloc _).grown (HB3.out.alloc _).own hg4, grown_rec (HB3.out.alloc _).own hg4 (HX3.out.belowW ((Below.refl _ _).alloc (Nat.le_refl _) _)) (by decide)⟩
              have := hB4
              rw [List.append_assoc, List.cons_append] at this
              rw [HEk.out]
              exact this
            case measure => simp [intOf]; omega
          · have hne := u8_ne _ hc
            have HXs := hide (fun w => sl1 w (V.t.getD k 0))
            have HES : Hid (escB (V.t.getD k 0) = [V.t.getD k 0]) := by unfold Hid escB; rw [if_neg hc]
            generalize V.t.getD k 0 = c at *
            generalize (c.toNat : Int) = cn at *
            clear hc
            go_upto_region 16 with (refine wpList_append_bts rfl (.tmp 40) (.tmp 45) rfl w0 _ _ _ _ rfl rfl (HB2.out.alloc _) (HXs.out _) (by have := HLk.out; simp; simp at this; omega) ?_; intro u3 W3 hB3 hg3)
            have HX3 : Hid (Box W3 b V) := grown_rec (HB2.out.alloc _).own hg3 (HX2.out.belowW ((Below.refl _ _).alloc (Nat.le_refl _) _)) (by decide)
            clear c2
            have c2 := HX3.out.cells.2.2.1
            rw [HST.out] at c2
            go_wp2
            go_roundw
            case rel =>
              refine ⟨k + 1, by omega, by go_num, ?_, (HO.out.alloc _).grown (HB2.out.alloc _).own hg3, HX3.out⟩
              rw [HEk.out, HES.out]
              exact hB3
            case measure => simp [intOf]; omega
        · have hkL : k = L := by omega
          rw [hkL] at HB2 HLk ⊢
          rw [HTL.out] at HB2 HLk
          clear hkL hlt hk
          have hb2 := build2
          have HXs : Hid (∀ w : World, Sl (w.alloc (.cells #[.int .u8 0, .int .u8 0] 5)) (.slice (some ⟨w.heap.size, 0, none⟩) 2 2) [0, 0]) := fun w => sl2 w 0 0
          go_wp2_with (refine wpList_append_bts rfl (.tmp 55) (.tmp 56) rfl w0 _ _ _ _ rfl rfl (HB2.out.alloc _) (HXs.out _) (by have := HLk.out; simp; simp at this; omega) ?_; intro u3 W3 hB3 hg3)
          go_ret
          refine ⟨_, rfl, ?_, (HO.out.alloc _).grown (HB2.out.alloc _).own hg3⟩
          rw [HEN.out]
          exact hB3
    · by_cases h3 : V.ty = 3
      · have HEN : Hid (enc V = [3, bitB V.b]) := by unfold Hid enc; rw [if_neg h1, if_neg h2, if_pos h3]
        rw [h3] at c0
        have hb2 := build2
        generalize hvb : V.b = vb at *
        cases vb
        · have HN : Hid (Bts w0 (W1.alloc (.cells #[.int .u8 3, .int .u8 0] 5)) (.slice (some ⟨W1.heap.size, 0, none⟩) 2 2) [3, 0]) := bts_new2 w0 W1 HB1.out 3 0
          go_wp2
          go_ret
          refine ⟨_, rfl, ?_, HOA.out.alloc _⟩
          rw [HEN.out]
          exact HN.out
        · have HN : Hid (Bts w0 (W1.alloc (.cells #[.int .u8 3, .int .u8 1] 5)) (.slice (some ⟨W1.heap.size, 0, none⟩) 2 2) [3, 1]) := bts_new2 w0 W1 HB1.out 3 1
          go_wp2
          go_ret
          refine ⟨_, rfl, ?_, HOA.out.alloc _⟩
          rw [HEN.out]
          exact HN.out
      · have HEN : Hid (enc V = [0]) := by unfold Hid enc; rw [if_neg h1, if_neg h2, if_neg h3]
        have k1 : (V.ty == 1) = false := beq_eq_false_iff_ne.2 h1
        have k2 : (V.ty == 2) = false := beq_eq_false_iff_ne.2 h2
        have k3 : (V.ty == 3) = false := beq_eq_false_iff_ne.2 h3
        have hb1 := build1
        have HN : Hid (Bts w0 (W1.alloc (.cells #[.int .u8 0] 5)) (.slice (some ⟨W1.heap.size, 0, none⟩) 1 1) [0]) := bts_new w0 W1 HB1.out 0
        go_wp2
        go_ret
        refine ⟨_, rfl, ?_, HOA.out.alloc _⟩
        rw [HEN.out]
        exact HN.out
set_option maxHeartbeats 2000000 in
theorem rjoin_any {w : World} {v : Value} {l : List Vl} (h : VsAt w v l) (hw : ∀ V ∈ l, V.wf) (hl : bulk l ≤ 400000000) :
    Calls Tryd.prog 34 #[v] w fun e w' => ∃ u', e = .returned u' ∧ Bts w w' u' (joinL l) := by
  obtain ⟨ao, c, rfl, hc1, hc2⟩ := h.len
  simp only [maxLen] at hc2
  have H := hide h
  have HW : Hid (∀ k, k < l.length → (l.getD k Vl.zero).wf) := fun k hk => hw _ (by simp [hk])
  have HJ : Hid (∀ k, k < l.length → joinL (l.take (k + 1)) = joinL (l.take k) ++ enc (l.getD k Vl.zero)) := fun k hk => joinL_take hk
  have HJL : Hid (∀ k, k < l.length → (joinL (l.take k)).length + 2 * (l.getD k Vl.zero).t.length + 20 ≤ 500000000) := fun k hk => by
    have := bulk_take hk
    have := length_joinL (l.take k)
    omega
  have HTL : Hid (l.take l.length = l) := List.take_length
  have hll : l.length ≤ 400000000 := by have := length_bulk l; omega
  clear h hw hl
  generalize hL : l.length = L at *
  have HLE := hide hL
  clear hL
  go_enter Tryd.func34, Tryd.ntmps34
  go_wp2
  go_loopw [4, 3] (fun i u wr => ∃ k : Nat, k ≤ L ∧ i = .int .i64 (k : Int) ∧ Bts w wr u (joinL (l.take k))) (fun i _ _ => L - (intOf i).toNat)
  case atStart => exact ⟨0, by omega, rfl, Bts.nil (Below.refl _ _)⟩
  case round =>
    obtain ⟨k, hk, rfl, hB⟩ := hrel
    have HB := hide hB
    clear hB
    by_cases hlt : k < L
    · obtain ⟨g, o, hao, hC⟩ := (H.out.belowW HB.out.below).get k (by rw [HLE.out]; exact hlt)
      subst hao
      obtain ⟨k0, k1, k2, k3⟩ := hC
      have HWk := hide (HW.out k hlt)
      have HJk := hide (HJ.out k hlt)
      have HJLk := hide (HJL.out k hlt)
      have hgl := World.block_lt_of_cell? wr _ k0
      generalize l.getD k Vl.zero = V at *
      have HA : Hid (Calls Tryd.prog 58 #[.agg #[.int .i64 V.ty, .int .i64 V.n, .string (strOf V.t), .bool V.b]] wr fun e w' => ∃ u', e = .returned u' ∧ Bts wr w' u' (enc V) ∧ Oth wr w') := rencode_any wr wr (Below.refl _ _) V HWk.out (by have := HJLk.out; omega)
      have HEL : Hid ((enc V).length ≤ 9 + 2 * V.t.length) := (length_enc V).2
      go_wp2_with (first
        | (go_at_call 58; refine HA.out.mono ?_; rintro e W2 ⟨u2, rfl, hB2, hO2⟩)
        | (refine wpList_append_bts rfl (.tmp 11) (.tmp 16) rfl w _ _ _ _ rfl rfl (HB.out.belowW hB2.below) hB2.sl (by have := HJLk.out; have := HEL.out; omega) ?_; intro u3' W3 hB3 hg3))
      go_roundw
      case rel =>
        refine ⟨k + 1, by omega, by go_num, ?_⟩
        rw [HJk.out]
        exact hB3
      case measure => simp [intOf]; omega
    · have hkL : k = L := by omega
      subst hkL
      go_wp2
      go_ret
      refine ⟨_, rfl, ?_⟩
      have := HB.out
      rw [HTL.out] at this
      exact this
end Go.Proofs.YtplpchaceiogaaaDoor
