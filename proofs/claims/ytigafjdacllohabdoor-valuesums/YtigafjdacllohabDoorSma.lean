/- value.Sum. -/
import Derived.Test.YtigafjdacllohabDoorAwk
import Derived.Deep.RegionWith
namespace Go.Proofs.YtigafjdacllohabDoor
set_option maxRecDepth 100000
open Go.RowKit
set_option linter.unusedVariables false
set_option linter.unusedSimpArgs false

def sumL (l : List Vl) : Int := (l.map fun v => if v.ty = 1 then v.n else 0).sum
theorem sumL_take {l : List Vl} {i : Nat} (h : i < l.length) : sumL (l.take (i + 1)) = sumL (l.take i) + (if (l.getD i Vl.zero).ty = 1 then (l.getD i Vl.zero).n else 0) := by
  unfold sumL
  rw [List.take_succ_eq_append_getElem h, List.map_append, List.sum_append]
  have e : l.getD i Vl.zero = l[i] := by simp [h]
  rw [e]
  simp
theorem sumL_abs : ∀ (l : List Vl), (∀ V ∈ l, small V.n) → (sumL l).natAbs ≤ l.length * 9223372036854775808
  | [], _ => Nat.le_refl _
  | v :: r, h => by
    have h1 := sumL_abs r (fun V hV => h V (by simp [hV]))
    have h2 := h v (by simp)
    unfold small at h2
    have e : sumL (v :: r) = (if v.ty = 1 then v.n else 0) + sumL r := by simp [sumL]
    rw [e, List.length_cons]
    split <;> omega
theorem known_ok : ∀ (l : List Vl), (∀ V ∈ l, V.ty = 0 ∨ V.ty = 1) → knownE 1 l = 0
  | [], _ => rfl
  | v :: r, h => by
    have h1 := known_ok r (fun V hV => h V (by simp [hV]))
    have h2 := h v (by simp)
    unfold knownE
    rw [h1]
    split
    · rfl
    · rw [if_pos (by omega)]
structure SmS (p q r : Nat) (x y : Int) (V : Vl) (W : World) : Prop where
  wb : WBox W p x y
  bx : Box W q V
  rs : Box W r Vl.zero
theorem SmS.belowW {p q r : Nat} {x y : Int} {V : Vl} {w w' : World} (h : SmS p q r x y V w) (hb : Below w.heap.size w w') : SmS p q r x y V w' := ⟨h.wb.belowW hb, h.bx.belowW hb, h.rs.belowW hb⟩
theorem field_ty (V : Vl) (W : World) : (Instr.field 23 (.agg #[.int .i64 V.ty, .int .i64 V.n, .string (strOf V.t), .bool V.b]) 0).run Tryd.prog W = .ok (.int .i64 V.ty) W := by kernel_rfl
theorem Tryd.results8 : Tryd.f8.results = #[.cell 2 23, .tmp 3] := by kernel_rfl
def sumV (l : List Vl) : Vl := if (firstL l).ty = 0 then Vl.zero else numV (sumL l)
def sumE (l : List Vl) : Int := if (firstL l).ty = 0 then 0 else numE (sumL l)
set_option maxHeartbeats 4000000 in
theorem sum_any {w : World} {v : Value} {l : List Vl} (h : VsAt w v l) (hty : ∀ V ∈ l, V.ty = 0 ∨ V.ty = 1) (hn : ∀ V ∈ l, small V.n) (hl : l.length ≤ 201) :
    Calls Tryd.prog 8 #[v] w fun e w' => e = .returned (telling (sumV l) (sumE l)) ∧ Below w.heap.size w w' := by
  obtain ⟨ao, c, rfl, hc1, hc2⟩ := h.len
  simp only [maxLen] at hc2
  have HR := hide (zero_r w)
  have HAL : Hid (Below w.heap.size w (w.alloc (.cells #[.int .i64 0, .int .i64 0, .string { data := #[] }, .bool false] 23))) := (Below.refl _ w).alloc (Nat.le_refl _) _
  have H : Hid (VsAt (w.alloc (.cells #[.int .i64 0, .int .i64 0, .string { data := #[] }, .bool false] 23)) (.slice ao l.length c) l) := h.belowW HAL.out
  have HK := hide (known_any H.out 1)
  rw [known_ok l hty] at HK
  obtain ⟨W1, hW1⟩ : ∃ W1, w.alloc (.cells #[.int .i64 0, .int .i64 0, .string { data := #[] }, .bool false] 23) = W1 := ⟨_, rfl⟩
  rw [hW1] at HR HAL H HK
  have HFA := hide (fun (W : World) (hb : Below W1.heap.size W1 W) => first_any (H.out.belowW hb))
  have HW : Hid (wide127 (sumL l)) := by
    have := sumL_abs l hn
    have h2 : l.length * 9223372036854775808 ≤ 201 * 9223372036854775808 := Nat.mul_le_mul_right _ hl
    unfold Hid wide127
    omega
  have HNU := hide (fun w => num_any (sumL l) HW.out w)
  have HTY := hide hty
  have HSN := hide hn
  clear h hty hn
  go_enter Tryd.func8, Tryd.ntmps8
  go_wp2_with fail
  try rw [hW1]
  refine HK.out.mono ?_
  rintro e W2 ⟨rfl, hB2⟩
  have HB2 := hide hB2
  have HF2 := hide (HFA.out W2 hB2)
  clear hB2
  by_cases h0 : (firstL l).ty = 0
  · have HS : Hid (sumV l = Vl.zero ∧ sumE l = 0) := by unfold Hid sumV sumE; rw [if_pos h0, if_pos h0]; exact ⟨rfl, rfl⟩
    have hfl := field_ty (firstL l)
    unfold valOf at HF2
    rw [h0] at HF2 hfl
    clear h0
    generalize firstL l = F at *
    go_wp2_with fail
    refine HF2.out.mono ?_
    rintro e W3 ⟨rfl, hB3⟩
    have HB3 := hide (HB2.out.trans (hB3.mono HB2.out.size))
    have HR3 := hide (HR.out.belowW HB3.out)
    clear hB3
    go_wp2_with (refine wpList_store_val rfl (.tmp 2) (.tmp 22) rfl rfl w.heap.size Vl.zero Vl.zero rfl rfl HR3.out ?_)
    refine bodyPost_ret (v := telling Vl.zero 0) (results_ct Tryd.results8 _ _ w.heap.size 23 _ (0, 0) _ rfl (Box.after HR3.out Vl.zero) Tryd.underlying23 rfl Tryd.size23) rfl ?_
    rw [HS.out.1, HS.out.2]
    exact ⟨rfl, below_setRow (thenW HAL.out HB3.out) (Nat.le_refl _) _⟩
  · have HS : Hid (sumV l = numV (sumL l) ∧ sumE l = numE (sumL l)) := by unfold Hid sumV sumE; rw [if_neg h0, if_neg h0]; exact ⟨rfl, rfl⟩
    have h0' : ((firstL l).ty == 0) = false := beq_eq_false_iff_ne.2 h0
    have hfl := field_ty (firstL l)
    unfold valOf at HF2
    clear h0
    generalize firstL l = F at *
    go_wp2_with fail
    refine HF2.out.mono ?_
    rintro e W3 ⟨rfl, hB3⟩
    have HB3 := hide (HB2.out.trans (hB3.mono HB2.out.size))
    clear hB3
    go_wp2
    obtain ⟨p, hp⟩ : ∃ p, W3.heap.size = p := ⟨_, rfl⟩
    obtain ⟨r, hr⟩ : ∃ r, w.heap.size = r := ⟨_, rfl⟩
    have HW0 : Hid (WBox (W3.alloc (.cells #[.int .u64 0, .int .u64 0] 47)) p 0 0) := by rw [← hp]; exact heap_alloc_new _ _
    have HA3 : Hid (Below W3.heap.size W3 (W3.alloc (.cells #[.int .u64 0, .int .u64 0] 47))) := (Below.refl _ _).alloc (Nat.le_refl _) _
    have HB4 := hide (HB3.out.trans (HA3.out.mono HB3.out.size))
    rw [hr] at HR HAL ⊢
    have hW1p : W1.heap.size ≤ p := by rw [← hp]; exact HB3.out.size
    have hrW1 : r < W1.heap.size := lt_of_heap HR.out
    obtain ⟨W4, hW4⟩ : ∃ W4, W3.alloc (.cells #[.int .u64 0, .int .u64 0] 47) = W4 := ⟨_, rfl⟩
    rw [hW4] at HW0 HB4 ⊢
    rw [hp]
    clear hW4 HA3 HB3 hW1
    obtain ⟨L, hL⟩ : ∃ L, l.length = L := ⟨_, rfl⟩
    rw [hL] at H hc1 ⊢
    have HLE := hide hL
    clear hL
    go_loopw [26] (fun z wr => ∃ j : Nat, j ≤ L ∧ z = .int .i64 (j : Int) ∧ WBox wr p (hiN (sumL (l.take j)) : Int) (loN (sumL (l.take j)) : Int) ∧ Below W1.heap.size W1 wr) (fun z _ => L - (intOf z).toNat)
    case atStart => exact ⟨0, Nat.zero_le _, rfl, HW0.out, HB4.out⟩
    case round =>
      obtain ⟨j, hj, rfl, hwb, hbw⟩ := hrel
      have HBW := hide hbw
      have HWB := hide hwb
      clear hbw hwb
      by_cases hlt : j < L
      · obtain ⟨g, o, hao, hC⟩ := (H.out.belowW HBW.out).get j (by rw [HLE.out]; exact hlt)
        subst hao
        obtain ⟨k0, k1, k2, k3⟩ := hC
        have hST := sumL_take (l := l) (i := j) (by rw [HLE.out]; exact hlt)
        have hmem : l.getD j Vl.zero ∈ l := by
          have e : l.getD j Vl.zero = l[j]'(by rw [HLE.out]; exact hlt) := by simp [HLE.out, hlt]
          rw [e]; exact List.getElem_mem _
        have hvt := HTY.out _ hmem
        have hvn := HSN.out _ hmem
        have hgl := World.block_lt_of_cell? wr _ k0
        have HST := hide hST
        clear hST hmem
        generalize l.getD j Vl.zero = V at *
        have HAV : Hid (Below wr.heap.size wr (wr.alloc (.cells #[.int .i64 V.ty, .int .i64 V.n, .string (strOf V.t), .bool V.b] 23))) := (Below.refl _ _).alloc (Nat.le_refl _) _
        by_cases h1 : V.ty = 1
        · have HS1 : Hid (WBox ((wr.alloc (.cells #[.int .i64 1, .int .i64 V.n, .string (strOf V.t), .bool V.b] 23)).drewN 1) p (hiN (sumL (l.take j)) : Int) (loN (sumL (l.take j)) : Int)) := (HWB.out.belowW ((Below.refl _ _).alloc (Nat.le_refl _) _)).belowW (below_drewN _ _ 1)
          have HBV : Hid (Below wr.heap.size wr ((wr.alloc (.cells #[.int .i64 1, .int .i64 V.n, .string (strOf V.t), .bool V.b] 23)).drewN 1)) := ((Below.refl _ _).alloc (Nat.le_refl _) _).trans (below_drewN _ _ 1)
          rw [h1] at k0
          have HWI := hide (fun w => widen_any V.n hvn w)
          have HPL := hide (fun w => plus_any (sumL (l.take j)) V.n w)
          rw [if_pos h1] at HST
          have HS2 : Hid (hiN (sumL (l.take (j + 1))) = hiN (sumL (l.take j) + V.n) ∧ loN (sumL (l.take (j + 1))) = loN (sumL (l.take j) + V.n)) := by rw [HST.out]; exact ⟨rfl, rfl⟩
          unfold wideV at HWI HPL
          have cc := HWB.out.cells
          obtain ⟨cc0, cc1⟩ := cc
          have hpl : p < wr.heap.size := lt_of_heap HWB.out
          clear HST h1 hvt HAV
          go_wp2
          go_region_with (first | (go_at_call 19; refine (HWI.out _).mono ?_; rintro e U1 ⟨rfl, hb1⟩; have hU1 := HS1.out.belowW hb1; have d0 := hU1.cells.1; have d1 := hU1.cells.2) | (go_at_call 18; refine (HPL.out _).mono ?_; rintro e U2 ⟨rfl, hb2⟩; have hU2 := hU1.belowW hb2; have e0 := hU2.cells.1; have e1 := hU2.cells.2; have ef : ∀ k, U2.frozen? ⟨p, k, none⟩ = false := fun k => frozen_row hU2))
          all_goals
            (go_wp2
             go_roundw
             case rel =>
               have hset := heap_set_same (o := 1) (Value.int .u64 (loN (sumL (l.take j) + V.n) : Int)) (heap_set_same (o := 0) (Value.int .u64 (hiN (sumL (l.take j) + V.n) : Int)) hU2)
               exact ⟨j + 1, hlt, by go_num, by rw [HS2.out.1, HS2.out.2]; exact hset, Below.setCell (Below.setCell (thenW (thenW (thenW HBW.out HBV.out) hb1) hb2) (show W1.heap.size ≤ (⟨p, 0, none⟩ : Addr).block from hW1p) _) (show W1.heap.size ≤ (⟨p, 1, none⟩ : Addr).block from hW1p) _⟩
             case measure => simp [intOf]; omega)
        · have h0 : V.ty = 0 := by omega
          have h1' : (V.ty == 1) = false := beq_eq_false_iff_ne.2 h1
          rw [if_neg h1, Int.add_zero] at HST
          clear h1 hvt
          rw [h0] at k0 HAV h1'
          have HWN : Hid (WBox (wr.alloc (.cells #[.int .i64 0, .int .i64 V.n, .string (strOf V.t), .bool V.b] 23)) p (hiN (sumL (l.take (j + 1))) : Int) (loN (sumL (l.take (j + 1))) : Int)) := by rw [HST.out]; exact HWB.out.belowW HAV.out
          clear h0
          go_wp2
          go_roundw
          case rel => exact ⟨j + 1, hlt, by go_num, HWN.out, thenW HBW.out HAV.out⟩
          case measure => simp [intOf]; omega
      · obtain rfl : j = L := by omega
        have htl : l.take j = l := List.take_of_length_le (by rw [HLE.out]; exact Nat.le_refl _)
        rw [htl] at HWB
        have HRr := hide (HR.out.belowW HBW.out)
        obtain ⟨cc0, cc1⟩ := HWB.out.cells
        unfold telling wideV at HNU
        clear htl hlt
        generalize numV (sumL l) = V at *
        generalize numE (sumL l) = er at *
        go_wp2_with (first | (go_at_call 20; refine (HNU.out _).mono ?_; rintro e U1 ⟨rfl, hb1⟩; have HR9 := HRr.out.belowW hb1) | (refine wpList_store_val rfl (.tmp 2) (.tmp 41) rfl rfl r Vl.zero V rfl rfl HR9 ?_))
        refine bodyPost_ret (v := telling V er) (results_ct Tryd.results8 _ _ r 23 _ (0, 0) _ rfl (Box.after HR9 V) Tryd.underlying23 rfl Tryd.size23) rfl ?_
        rw [HS.out.1, HS.out.2]
        refine ⟨rfl, ?_⟩
        rw [hr]
        exact below_setRow (B := r) (w := w) ((HAL.out.trans (HBW.out.mono (Nat.le_of_lt hrW1))).trans (hb1.mono (by have := HBW.out.size; omega))) (Nat.le_refl _) _
end Go.Proofs.YtigafjdacllohabDoor
