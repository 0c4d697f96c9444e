/- The walk of the law RingLent: it returns true and writes nothing that was there. -/
import Derived.Test.YtkkmkcobmjdblaaRStr
namespace Go.Proofs.Ytkkmkcobmjdblaa
open Go.RowKit
set_option linter.unusedVariables false
set_option linter.unusedSimpArgs false

theorem run_cut_to (w : World) (g o n c h : Nat) (hh : h ≤ c) :
    (Instr.sliceAt 27 (.slice (some ⟨g, o, none⟩) n c) none (some (.int .i64 (h : Int))) none).run Try.prog w = .ok (.slice (some ⟨g, o, none⟩) h c) w := by
  have hu := Try.underlying27
  have h1 : (h : Int) ≤ (c : Int) := by omega
  obtain ⟨i, hi, hz, hsz, hby⟩ := Try.info5'
  simp [Instr.sliceAt, Instr.slice, run_underlying hu, Instr.sliceBounds, Instr.sliceBound, asIntOf, h1, sizeOf, typeInfo, hi, hsz, Nat.mul_one, hh]
  by_cases e : c = 0 <;> simp [e, Addr.add_mid]
theorem Held.belowW {w w' : World} {v : Value} {hs : List UInt8} (h : Held w v hs) (hb : Below w.heap.size w w') : Held w' v hs := h.stay hb.size (fun k hk => hb.block k (h.lt k hk))
theorem Try.built0 (w : World) : (Instr.buildSlice 27 0 #[]).run Try.prog w = .ok (.slice (some ⟨w.heap.size, 0, none⟩) 0 0) (w.alloc (.cells #[] 5)) := by kernel_rfl
theorem Try.built77 (w : World) : (Instr.buildSlice 27 1 #[(0, .int .u8 77)]).run Try.prog w = .ok (.slice (some ⟨w.heap.size, 0, none⟩) 1 1) (w.alloc (.cells #[.int .u8 77] 5)) := by kernel_rfl

set_option maxHeartbeats 2000000 in
set_option maxRecDepth 100000 in
theorem lent_walk (a0 : Option Addr) (len0 cap0 : Nat) (b0 : List UInt8) (a1 : Option Addr) (len1 cap1 : Nat) (b1 : List UInt8) (w : World) (w0 : Sl w (.slice a0 len0 cap0) b0) (w1 : Sl w (.slice a1 len1 cap1) b1)
    (lb0 : b0.length = len0) (lb1 : b1.length = len1) (lm0 : len0 ≤ 140737488355328) (lm1 : len1 ≤ 140737488355328) :
    Calls Try.prog 7 #[.slice a0 len0 cap0, .slice a1 len1 cap1] w fun e w' => e = .returned (.bool true) ∧ Below w.heap.size w w' := by
  have W0 := hide w0
  have W1 := hide w1
  clear w0 w1
  by_cases hbig : 1500 < len0 + len1
  · have hA := hide (awake_true w)
    have hb : (1500 : Int) < (len0 : Int) + (len1 : Int) := by omega
    go_enter Try.func7, Try.ntmps7
    go_wp2_with (first | (go_at_call 11; refine hA.out.mono ?_; rintro e w' ⟨rfl, hb⟩; have HB := hide hb; clear hb))
    go_ret
    exact ⟨rfl, HB.out⟩
  · have hb : decide ((1500 : Int) < (len0 : Int) + (len1 : Int)) = false := by simp; omega
    have LB0 := hide lb0
    have LB1 := hide lb1
    clear lb0 lb1
    go_enter Try.func7, Try.ntmps7
    go_wp2_with fail
    refine (b_new 20 w (by omega) (by omega)).mono ?_
    rintro e w2 ⟨p, rfl, hD1⟩
    have HO := hide (b_open (xs := []) 0 20 0 hD1 rfl (by simp [Dv.fresh]) (by simp [Dv.fresh]) (by omega) (by omega) (by omega))
    clear hD1
    go_wp2_with fail
    refine HO.out.mono ?_
    rintro e w3 ⟨q, rfl, hB3, _⟩
    have hR3 : Rg.opened (Dv.fresh 20) 0 20 0 = ⟨0, 20, 0, 0, [], false⟩ := by
      unfold Rg.opened
      rw [fresh_found 20 0 20 0 (by omega) (by omega)]
      rfl
    rw [hR3] at hB3
    clear HO hR3
    have HB3 := hide hB3
    have H77 : Hid (∀ x : World, Sl (x.alloc (.cells #[.int .u8 77] 5)) (.slice (some ⟨x.heap.size, 0, none⟩) 1 1) [77]) := fun x =>
      .inr ⟨_, _, rfl, fun j u hu => src_of_block (t := 5) (fr := (0, 0)) (X := secCells [77]) (heap_alloc_new x _) j u hu⟩
    have HE0 : Hid (Held (w3.alloc (.cells #[] 5)) (.slice (some ⟨w3.heap.size, 0, none⟩) 0 0) []) :=
      .inr ⟨w3.heap.size, 0, 0, rfl, Nat.le_refl _, Nat.zero_le _, fun j hj => by omega, fun j u hu => by simp [secCells] at hu, by simp⟩
    have HS0 : Hid (Sl (w3.alloc (.cells #[] 5)) (.slice a0 len0 cap0) b0) := W0.out.below ((hB3.below).alloc hB3.below.size _) (Nat.le_refl _)
    have hbu0 := Try.built0
    have hbu7 := Try.built77
    have HL0 : Hid (([] : List UInt8).length + b0.length ≤ 100000000) := by show _ ≤ _; rw [LB0.out]; simp; omega
    have HL7 : Hid ((([] : List UInt8) ++ b0).length + [(77 : UInt8)].length ≤ 100000000) := by show _ ≤ _; simp [LB0.out]; omega
    have hsz3 : w.heap.size ≤ w3.heap.size := hB3.below.size
    have HN4 : Hid ((([] : List UInt8) ++ b0).length = len0) := by show _ = _; simp [LB0.out]
    have HOWN : Hid (∀ (w4 w5 : World) (o4 : Option Addr) (c4 : Nat) (v5 : Value), (w3.alloc (.cells #[] 5)).grownBy w4 (some w3.heap.size) → (∀ k, (Value.slice o4 len0 c4).ownBlock = some k → some w3.heap.size = some k ∨ (w3.alloc (.cells #[] 5)).heap.size ≤ k) →
        Held w5 v5 (([] ++ b0) ++ [77]) → (w4.alloc (.cells #[.int .u8 77] 5)).grownBy w5 (Value.slice o4 len0 c4).ownBlock → (∀ k, v5.ownBlock = some k → (Value.slice o4 len0 c4).ownBlock = some k ∨ (w4.alloc (.cells #[.int .u8 77] 5)).heap.size ≤ k) →
        ∃ g o c, v5 = .slice (some ⟨g, o, none⟩) (len0 + 1) c ∧ len0 + 1 ≤ c ∧ w5.there g o c ∧ w5.rangeAt g o (secCells (b0 ++ [77])) ∧ w.heap.size ≤ g ∧ g < w5.heap.size ∧ Both w w5 q p [g] ⟨0, 20, 0, 0, [], false⟩ (Dv.fresh 20)) := fun w4 w5 o4 c4 v5 hg4 hf4 hh5 hg5 hf5 => by
      have hs4 : w3.heap.size + 1 ≤ w4.heap.size := by have := hg4.size; simpa using this
      have hs5 : w4.heap.size + 1 ≤ w5.heap.size := by have := hg5.size; simpa using this
      have hblk : ∀ k, v5.ownBlock = some k → w3.heap.size ≤ k := fun k hk => by
        rcases hf5 k hk with h1 | h1
        · rcases hf4 k h1 with h2 | h2
          · have : w3.heap.size = k := by simpa using h2
            omega
          · simp at h2; omega
        · simp at h1; omega
      have hbel : Below w3.heap.size w3 w5 := by
        refine ⟨hg5.os.trans hg4.os, hg5.tape.trans hg4.tape, hg5.output.trans hg4.output, by omega, fun k hk => ?_⟩
        rw [hg5.block k (by simp; omega) (fun e => by
          rcases hf4 k e.symm with h2 | h2
          · have : w3.heap.size = k := by simpa using h2
            omega
          · simp at h2; omega), Below.heap_alloc _ _ _ (by omega), hg4.block k (by simp; omega) (fun e => by
          have : k = w3.heap.size := by simpa using e
          omega), Below.heap_alloc _ _ _ hk]
      rcases hh5 with ⟨_, e⟩ | ⟨g, o, c, rfl, h1, h2, h3, h4, h5⟩
      · simp at e
      · have hl : (([] : List UInt8) ++ b0 ++ [77]).length = len0 + 1 := by simp [LB0.out]
        rw [hl] at h1 ⊢
        have hge := hblk g (by simp [Value.ownBlock])
        exact ⟨g, o, c, rfl, h1, h3, by simpa using h4, by omega, h5, HB3.out.mindNew hbel (fun k hk => by simp at hk; exact .inr (by omega))⟩
    clear hB3
    go_wp2_with (first
      | (refine wpList_append_held rfl (.tmp 40) (.tmp 41) rfl _ _ [] b0 rfl rfl HE0.out HS0.out HL0.out ?_; intro v4 w4 hh4 hg4 hf4; obtain ⟨o4, c4, hv4⟩ := hh4.len; rw [HN4.out] at hv4; subst hv4; have HH4 := hide hh4; have HG4 := hide hg4; have HF4 := hide hf4; clear hh4 hg4 hf4)
      | (refine wpList_append_held rfl (.tmp 42) (.tmp 43) rfl _ _ ([] ++ b0) [77] rfl rfl (HH4.out.belowW ((Below.refl _ _).alloc (Nat.le_refl _) _)) (H77.out w4) HL7.out ?_; intro v5 w5 hh5 hg5 hf5; obtain ⟨g, o, c, hv5, hcc, hthr, hrng, hgs, hgn, hB5⟩ := HOWN.out w4 w5 o4 c4 v5 HG4.out HF4.out hh5 hg5 hf5; subst hv5; have HH5 := hide hh5; clear hh5 hg5 hf5)
      | (go_at_call 12; fail)
      | fail)
    have hsl5 : Sl w5 (.slice (some ⟨g, o, none⟩) len0 c) b0 := by
      refine .inr ⟨_, _, by rw [LB0.out], fun j u hu => ?_⟩
      rw [Addr.add_mid]
      refine hrng j u ?_
      rw [secCells_append]
      have hj := (List.getElem?_eq_some_iff.1 hu).1
      rw [List.getElem?_append_left hj]
      exact hu
    have h77 : w5.cell? ⟨g, o + len0, none⟩ = some (.int .u8 77) := by
      refine hrng len0 _ ?_
      rw [secCells_append, List.getElem?_append_right (by rw [length_secCells, LB0.out]; exact Nat.le_refl _), length_secCells, LB0.out, Nat.sub_self]
      rfl
    have hap := b_append (bs := b0) (ao := some ⟨g, o, none⟩) (c := c) hB5 rfl (by rw [LB0.out]; show len0 ≤ 2242; omega) (by rw [LB0.out]; exact hsl5)
    rw [LB0.out] at hap
    refine hap.mono ?_
    rintro e w6 ⟨rfl, hB6, hK6⟩
    have hth6 : w6.there g o (len0 + 1) := fun j hj => by
      have e := hK6.2 g (by simp)
      rw [World.cell?_of_block (a := ⟨g, o + j, none⟩) e, World.frozen?_of_block (a := ⟨g, o + j, none⟩) e]
      exact hthr j (by omega)
    have h776 : w6.cell? ⟨g, o + len0, none⟩ = some (.int .u8 77) := (World.cell?_of_block (a := ⟨g, o + len0, none⟩) (hK6.2 g (by simp))).trans h77
    have hB6 : Both w w6 q p [g] ⟨0, 20, 0, 0, b0, false⟩ (Dv.fresh 20) := hB6
    have HGS := hide hgs
    clear hap hsl5 h77 hB5 hthr hrng hK6 HOWN HH5 HH4 HG4 HF4 HE0 HS0 hbu0 hbu7 H77 HB3 hgn
    go_wp2_with fail
    go_loopw [11] (fun i wr => ∃ k : Nat, k ≤ len0 ∧ i = .int .i64 k ∧ Both w wr q p [g] ⟨0, 20, 0, 0, b0, false⟩ (Dv.fresh 20) ∧ wr.there g o (len0 + 1) ∧ wr.cell? ⟨g, o + len0, none⟩ = some (.int .u8 77)) (fun i _ => len0 + 1 - (intOf i).toNat)
    case atStart => exact ⟨0, by omega, rfl, hB6, hth6, h776⟩
    case round =>
      clear hB6 hth6 h776
      obtain ⟨k, hk, rfl, hB, hth, h77⟩ := hrel
      by_cases hlt : k < len0
      · have hcs := (hth k (by omega)).1
        have hfz := (hth k (by omega)).2
        obtain ⟨u, hu⟩ := Option.isSome_iff_exists.1 hcs
        have HB := hide hB
        have HTH := hide hth
        have H77 := hide h77
        have hlt2 : (k : Int) < (len0 : Int) + 1 := by omega
        clear hB hth h77 hcs
        go_wp2
        go_roundw
        case rel =>
          refine ⟨k + 1, by omega, by go_num, HB.out.write (by simp) HGS.out ((Off.refl [g] wr).setCell _ _ (.inl (by simp))), World.there_setCells HTH.out g (o + k) [.int .u8 1], ?_⟩
          have := World.cell?_setCells_out g [.int .u8 1] (o + k) wr ⟨g, o + len0, none⟩ (fun _ _ => .inr (by simp; omega))
          exact this.trans H77.out
        case measure => simp [intOf]; omega
      · have hrd := b_read 0 len0 hB (Nat.le_refl _) (by show 0 + len0 ≤ 0 + b0.length; rw [LB0.out]; omega)
        have HRD := hide hrd
        have HB := hide hB
        have H77 := hide h77
        clear hB hth h77 hrd
        go_wp2_with fail
        refine HRD.out.mono ?_
        rintro e w7 ⟨gx, rfl, hgx, hcx, hb7⟩
        have hgxl : gx < w7.heap.size := (Array.getElem?_eq_some_iff.1 hcx).1
        have hB7 := HB.out.mindNew hb7 (ys := [g, gx]) (fun k hk => by
          simp at hk
          rcases hk with rfl | rfl
          · exact .inl (by simp)
          · exact .inr ⟨hgx, hgxl⟩)
        have hg7 : g < wr.heap.size := World.block_lt_of_cell? wr _ H77.out
        have h777 : w7.cell? ⟨g, o + len0, none⟩ = some (.int .u8 77) := (hb7.cell (p := ⟨g, o + len0, none⟩) hg7).trans H77.out
        have hY7 : ((b0.drop (0 - 0)).take len0).length = len0 := by simp [LB0.out]
        have hcx : w7.heap[gx]? = some (.cells (secCells ((b0.drop (0 - 0)).take len0)).toArray 5 (0, 0)) := hcx
        generalize (b0.drop (0 - 0)).take len0 = Y7 at *
        have HGX : Hid (w.heap.size ≤ gx) := Nat.le_trans HB.out.below.size hgx
        have hgne : g ≠ gx := by omega
        clear HB H77 HRD hb7 hgx hgxl hg7
        go_wp2_with fail
        go_loopw [14] (fun i wx => ∃ (j : Nat) (Y : List UInt8), j ≤ len0 ∧ i = .int .i64 j ∧ Both w wx q p [g, gx] ⟨0, 20, 0, 0, b0, false⟩ (Dv.fresh 20) ∧ wx.heap[gx]? = some (.cells (secCells Y).toArray 5 (0, 0)) ∧ Y.length = len0 ∧ wx.cell? ⟨g, o + len0, none⟩ = some (.int .u8 77)) (fun i _ => len0 + 1 - (intOf i).toNat)
        case atStart => exact ⟨0, Y7, by omega, rfl, hB7, hcx, hY7, h777⟩
        case round =>
          clear hB7 hcx hY7 h777
          obtain ⟨j, Y, hj, rfl, hB, hcY, hYl, h77⟩ := hrel
          by_cases hjl : j < len0
          · have hcell : wr.cell? ⟨gx, j, none⟩ = some (.int .u8 ((Y[j]'(by omega)).toNat : Int)) := by rw [cell_of_row _ _ _ _ _ _ hcY]; exact secCells_get Y j (by omega)
            have hfz := frozen_of_row wr gx j _ _ hcY
            have hyb := (Y[j]'(by omega)).toNat_lt
            obtain ⟨y, hy⟩ : ∃ y, (Y[j]'(by omega)).toNat = y := ⟨_, rfl⟩
            rw [hy] at hcell hyb
            have HB := hide hB
            have HCY := hide hcY
            have HYL := hide hYl
            have H77 := hide h77
            clear hB hcY hYl h77 hy
            go_wp2
            go_roundw
            case rel =>
              have e1 : (Value.int .u8 (((y : Int) + 1) % 256)) = bcell (byteOf ((y : Int) + 1)) := (bcell_byteOf _).symm
              refine ⟨j + 1, Y.set j (byteOf ((y : Int) + 1)), by omega, by go_num, HB.out.write (g := gx) (by simp) HGX.out ((Off.refl [gx] wr).setCell _ _ (.inl (by simp))), by rw [e1]; exact sec_setCell HCY.out j _, by rw [List.length_set]; exact HYL.out, ?_⟩
              exact (World.cell?_of_block (a := ⟨g, o + len0, none⟩) (heap_setCell_other wr _ g _ hgne)).trans H77.out
            case measure => simp [intOf]; omega
          · have hsl1 := W1.out.below hB.below (Nat.le_refl _)
            have hap := b_append (bs := b1) (ao := a1) (c := cap1) hB rfl (by rw [LB1.out]; show len1 ≤ (0 / 118 + 20 - 1) * 118 - (0 + b0.length); rw [LB0.out]; omega) (by rw [LB1.out]; exact hsl1)
            rw [LB1.out] at hap
            have HAP := hide hap
            have H77 := hide h77
            clear hap hsl1 hB hcY hYl h77
            go_wp2_with fail
            refine HAP.out.mono ?_
            rintro e w8 ⟨rfl, hB8, hK8⟩
            have h778 : w8.cell? ⟨g, o + len0, none⟩ = some (.int .u8 77) := (World.cell?_of_block (a := ⟨g, o + len0, none⟩) (hK8.2 g (by simp))).trans H77.out
            have hB8 : Both w w8 q p [g, gx] ⟨0, 20, 0, 0, b0 ++ b1, false⟩ (Dv.fresh 20) := hB8
            have hrd := b_read 0 (len0 + len1) hB8 (Nat.le_refl _) (by show 0 + (len0 + len1) ≤ 0 + (b0 ++ b1).length; rw [List.length_append, LB0.out, LB1.out]; omega)
            rw [show ((len0 + len1 : Nat) : Int) = (len0 : Int) + (len1 : Int) by omega] at hrd
            have HRD := hide hrd
            have HB8 := hide hB8
            have H778 := hide h778
            clear hrd hB8 hK8 HAP H77 h778
            go_wp2_with fail
            refine HRD.out.mono ?_
            rintro e w9 ⟨gy, rfl, hgy, hcy, hb9⟩
            have hcy : w9.heap[gy]? = some (.cells (secCells (((b0 ++ b1).drop (0 - 0)).take (len0 + len1))).toArray 5 (0, 0)) := hcy
            have hYe : ((b0 ++ b1).drop (0 - 0)).take (len0 + len1) = b0 ++ b1 := by
              rw [Nat.sub_self, List.drop_zero]
              exact List.take_of_length_le (by rw [List.length_append, LB0.out, LB1.out]; omega)
            rw [hYe] at hcy
            have hB9 := HB8.out.belowW hb9
            have hg8 : g < w8.heap.size := World.block_lt_of_cell? w8 _ H778.out
            have h779 : w9.cell? ⟨g, o + len0, none⟩ = some (.int .u8 77) := (hb9.cell (p := ⟨g, o + len0, none⟩) hg8).trans H778.out
            have sy := run_str (w := w9) (ao := some ⟨gy, 0, none⟩) (n := len0 + len1) (c := len0 + len1) (bs := b0 ++ b1) (block_sl hcy (by rw [List.length_append, LB0.out, LB1.out])) (by rw [List.length_append, LB0.out, LB1.out])
            have sa := run_str (W0.out.below hB9.below (Nat.le_refl _)) LB0.out
            have sb := run_str (W1.out.below hB9.below (Nat.le_refl _)) LB1.out
            have hcat := strOf_append b0 b1
            have hsa : ((strOf b0).size : Int) = (len0 : Int) := by rw [size_strOf, LB0.out]
            have hsb : ((strOf b1).size : Int) = (len1 : Int) := by rw [size_strOf, LB1.out]
            have HAW := hide (awake_true w9)
            have HBB := hide hB9.below
            have hi77 : (len0 : Int) < ((len0 : Int) + 1) := by omega
            clear HRD HB8 H778 hgy hcy hb9 hYe hB9 hg8
            generalize strOf (b0 ++ b1) = sx at *
            generalize strOf b0 = s0 at *
            generalize strOf b1 = s1 at *
            go_wp2_with (first
              | (go_at_call 11; refine HAW.out.mono ?_; rintro e w10 ⟨rfl, hb10⟩; have HB10 := hide hb10; clear hb10)
              | fail)
            go_ret
            exact ⟨rfl, HBB.out.trans (HB10.out.mono HBB.out.size)⟩
end Go.Proofs.Ytkkmkcobmjdblaa
