/- The walk of KeyBack. -/
import Derived.Test.YtojhaikafbnonaaAwake
namespace Go.Proofs.Ytojhaikafbnonaa
open Go.RowKit
set_option linter.unusedVariables false
set_option linter.unusedSimpArgs false

theorem map_take_succ {l : List Vl} {k : Nat} (h : k < l.length) : (l.take (k + 1)).map clean = (l.take k).map clean ++ [clean (l.getD k Vl.zero)] := by
  rw [List.take_succ_eq_append_getElem h, List.map_append]
  have e1 : l.getD k Vl.zero = l[k] := by simp [h]
  rw [e1]
  rfl
theorem bulk_clean : ∀ l, bulk (l.map clean) ≤ bulk l
  | [] => Nat.le_refl _
  | v :: l => by
    have h1 := clean_len v
    have h2 := bulk_clean l
    have e2 : bulk (v :: l) = (2 * v.t.length + 20) + bulk l := rfl
    have e3 : bulk ((v :: l).map clean) = (2 * (clean v).t.length + 20) + bulk (l.map clean) := rfl
    omega
set_option maxHeartbeats 8000000 in
theorem back_walk {w : World} {vl vm : Value} {l : List Vl} {more : List UInt8} (h : VsAt w vl l) (hm : Sl w vm more) (hw : ∀ V ∈ l, V.wf) (hl : bulk l ≤ 200000000) (hml : more.length ≤ 100000000) :
    Calls Try.prog 5 #[vl, vm] w fun e w' => e = .returned (.bool true) ∧ Below w.heap.size w w' := by
  obtain ⟨ao, c, rfl, hc1, hc2⟩ := h.len
  obtain ⟨am, cm, rfl, hm1, hm2⟩ := hm.len
  simp only [maxLen] at hc2 hm2
  have H := hide h
  have HM := hide hm
  have HML := hide hml
  have HW : Hid (∀ k, k < l.length → (l.getD k Vl.zero).wf) := fun k hk => hw _ (by simp [hk])
  have HBK : Hid (∀ k, k < l.length → 2 * (l.getD k Vl.zero).t.length + 20 ≤ 200000000) := fun k hk => by have := bulk_take hk; omega
  have HWA := hide hw
  have HMT : Hid (∀ k, k < l.length → (l.take (k + 1)).map clean = (l.take k).map clean ++ [clean (l.getD k Vl.zero)]) := fun k hk => map_take_succ hk
  have HTL : Hid (l.take l.length = l) := List.take_length
  have HTK : Hid (∀ k, k ≤ l.length → ((l.take k).map clean).length = k) := fun k hk => by rw [List.length_map, List.length_take]; omega
  have hll : l.length ≤ 200000000 := by have := length_bulk l; omega
  have HBL := hide hl
  clear h hm hw hl hml
  generalize hL : l.length = L at *
  have HLE := hide hL
  clear hL
  generalize hN : more.length = N at *
  have HNE := hide hN
  clear hN
  go_enter Try.func5, Try.ntmps5
  go_wp2
  go_loopw [6, 5] (fun i u wr => ∃ k : Nat, k ≤ L ∧ i = .int .i64 (k : Int) ∧ Vals w wr u ((l.take k).map clean)) (fun i _ _ => L - (intOf i).toNat)
  case atStart => exact ⟨0, by omega, rfl, Vals.nil (Below.refl _ _)⟩
  case round =>
    obtain ⟨k, hk, rfl, hV⟩ := hrel
    have HV := hide hV
    clear hV
    by_cases hlt : k < L
    · obtain ⟨g, o, hao, hC⟩ := (H.out.belowW HV.out.below).get k (by rw [HLE.out]; exact hlt)
      subst hao
      obtain ⟨k0, k1, k2, k3⟩ := hC
      have HWk := hide (HW.out k hlt)
      have HBk := hide (HBK.out k hlt)
      have HMk := hide (HMT.out k hlt)
      have HTk := hide (HTK.out k hk)
      have hgl := World.block_lt_of_cell? wr _ k0
      generalize l.getD k Vl.zero = V0 at *
      have HCL : Hid (Calls Try.prog 18 #[.agg #[.int .i64 V0.ty, .int .i64 V0.n, .string (strOf V0.t), .bool V0.b]] wr fun e w' => e = .returned (.agg #[.int .i64 (clean V0).ty, .int .i64 (clean V0).n, .string (strOf (clean V0).t), .bool (clean V0).b]) ∧ Below wr.heap.size wr w') := clean_any V0 wr
      have HDE := hide (dec_enc V0 HWk.out more)
      have HWc := hide (wf_clean HWk.out)
      have HLc : Hid (2 * (clean V0).t.length + 20 ≤ 200000000) := by have := clean_len V0; have := HBk.out; rw [Hid]; omega
      clear HWk HBk
      generalize clean V0 = V at *
      have HEN : Hid (∀ W, Calls Try.prog 10 #[.agg #[.int .i64 V.ty, .int .i64 V.n, .string (strOf V.t), .bool V.b]] W fun e w' => ∃ u', e = .returned u' ∧ Bts W w' u' (enc V) ∧ Oth W w') := fun W => encode_any W W (Below.refl _ _) V HWc.out (by have := HLc.out; omega)
      have HEL : Hid ((enc V).length ≤ 200000000) := by have := (length_enc V).2; have := HLc.out; rw [Hid]; omega
      go_upto_region 6 with (go_at_call 18; refine HCL.out.mono ?_; rintro e W1 ⟨rfl, hB1⟩)
      have HV1 := hide (HV.out.belowW hB1)
      clear HCL hB1 HV k0 k1 k2 k3
      have HX1 := hide (box_new W1 V)
      have HVa := hide (HV1.out.alloc (.cells #[.int .i64 V.ty, .int .i64 V.n, .string (strOf V.t), .bool V.b] 23))
      generalize W1.alloc (.cells #[.int .i64 V.ty, .int .i64 V.n, .string (strOf V.t), .bool V.b] 23) = W2 at *
      generalize W1.heap.size = b at *
      obtain ⟨c0, c1, c2, c3⟩ := HX1.out.cells
      have HSM := hide (HM.out.belowW HVa.out.below)
      have HE2 := hide (HEN.out W2)
      go_wp2_with fail
      refine HE2.out.mono ?_
      rintro e W3 ⟨u3, rfl, hB3, _⟩
      have HB3 := hide hB3
      have HSM3 := hide (HSM.out.belowW hB3.below)
      clear hB3 HE2 c0 c1 c2 c3
      go_wp2_with (refine wpList_append_bts rfl (.tmp 26) (.tmp 27) rfl W2 _ _ _ _ rfl rfl HB3.out HSM3.out (by rw [HNE.out]; have := HEL.out; have := HML.out; omega) ?_; intro u4' W4 hB4 hg4)
      have HB4 := hide hB4
      have HX4 := hide (HX1.out.belowW hB4.below)
      have HVd := hide (HVa.out.belowW hB4.below)
      have HD := hide (decode_any hB4.sl (by rw [List.length_append, HNE.out]; have := HEL.out; have := HML.out; omega))
      rw [decV_some HDE.out] at HD
      clear hB4 hg4 HB3
      refine HD.out.mono ?_
      rintro e W5 ⟨rfl, hB5⟩
      have HX5 := hide (HX4.out.belowW hB5)
      have HV5 := hide (HVd.out.belowW hB5)
      clear hB5 HD
      go_upto_region 7 with fail
      have HX6 := hide (HX5.out.belowW ((Below.refl _ _).alloc (Nat.le_refl _) (.cells #[.int .i64 V.ty, .int .i64 V.n, .string (strOf V.t), .bool V.b] 23)))
      have HY6 := hide (box_new W5 V)
      have HV6 := hide (HV5.out.alloc (.cells #[.int .i64 V.ty, .int .i64 V.n, .string (strOf V.t), .bool V.b] 23))
      generalize W5.alloc (.cells #[.int .i64 V.ty, .int .i64 V.n, .string (strOf V.t), .bool V.b] 23) = W6 at *
      generalize W5.heap.size = q at *
      obtain ⟨c0, c1, c2, c3⟩ := HX6.out.cells
      obtain ⟨d0, d1, d2, d3⟩ := HY6.out.cells
      have hn := fun w => run_neq23 w V V true (by simp)
      have he := fun w => eq23 w V V true (by simp)
      go_wp2_with fail
      refine (HEN.out W6).mono ?_
      rintro e W7 ⟨u7, rfl, hB7, _⟩
      obtain ⟨a7, c7, e7, _, _⟩ := hB7.sl.len
      subst e7
      have HX7 := hide (HX6.out.belowW hB7.below)
      have HV7 := hide (HV6.out.belowW hB7.below)
      clear c0 c1 c2 c3 d0 d1 d2 d3
      obtain ⟨c0, c1, c2, c3⟩ := HX7.out.cells
      clear hB7
      generalize (enc V).length = m at *
      have hbv := buildV V
      have HXV : Hid (∀ W : World, VsAt (W.alloc (.cells #[.int .i64 V.ty, .int .i64 V.n, .string (strOf V.t), .bool V.b] 23)) (.slice (some ⟨W.heap.size, 0, none⟩) 1 1) [V]) := fun W => vsAt1 W V
      go_wp2_with (refine wpList_append_vals rfl (.tmp 47) (.tmp 49) rfl w _ _ _ _ rfl rfl (HV7.out.alloc _) (HXV.out _) (by rw [HTk.out]; simp; omega) ?_; intro u8' W8 hV8 hg8)
      go_roundw
      case rel =>
        refine ⟨k + 1, by omega, by go_num, ?_⟩
        rw [HMk.out]
        exact hV8
      case measure => simp [intOf]; omega
    · have hkL : k = L := by omega
      subst hkL
      rw [HTL.out] at HV
      have HJ := hide (join_any HV.out.at (fun V hV => by obtain ⟨U, hU, rfl⟩ := List.mem_map.1 hV; exact wf_clean (HWA.out U hU)) (by have := bulk_clean l; have := HBL.out; omega))
      have HSPL : Hid (splitN (joinL (l.map clean)).length (joinL (l.map clean)) [] = some (l.map clean)) := by
        have := splitN_join l (joinL (l.map clean)).length [] HWA.out (Nat.le_refl _)
        rw [List.nil_append] at this
        exact this
      have HJL : Hid ((joinL (l.map clean)).length ≤ 200000000) := by have := length_joinL (l.map clean); have := bulk_clean l; have := HBL.out; rw [Hid]; omega
      go_wp2_with fail
      refine HJ.out.mono ?_
      rintro e W1 ⟨u1, rfl, hB1⟩
      have HV1 := hide (HV.out.belowW hB1.below)
      have HS := hide (split_any hB1.sl (by have := HJL.out; omega))
      clear hB1 HJ
      go_wp2_with fail
      refine HS.out.mono ?_
      intro e W2 hS2
      unfold SplitEnd at hS2
      rw [HSPL.out] at hS2
      obtain ⟨u2, rfl, hV2⟩ := hS2
      have HV2 := hide (HV1.out.belowW hV2.below)
      have HU2 := hide hV2.at
      have HSA := hide (same_any HV2.out.at HU2.out)
      have HAW : Hid (∀ W, Calls Try.prog 17 #[] W fun e w' => e = .returned (.bool true) ∧ Below W.heap.size W w') := awake_any
      clear hV2 HS
      go_wp2_with (first
        | (go_at_call 14; refine HSA.out.mono ?_; rintro e W3 ⟨rfl, m3, hw3⟩; have HB3 : Hid (Below W2.heap.size W2 W3) := (by rw [hw3]; exact below_drewN _ _ _); clear hw3)
        | (go_at_call 17; refine (HAW.out _).mono ?_; rintro e W4 ⟨rfl, hB4⟩))
      go_ret
      have h23 := HV2.out.below.trans (HB3.out.mono HV2.out.below.size)
      exact ⟨rfl, h23.trans (hB4.mono h23.size)⟩
end Go.Proofs.Ytojhaikafbnonaa
