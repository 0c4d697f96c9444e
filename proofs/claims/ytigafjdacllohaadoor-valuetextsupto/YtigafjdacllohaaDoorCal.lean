/- value.Call at texts: length, plain, coalesce; for ValueTexts. -/
import Derived.Test.YtigafjdacllohaaDoorLes
import Derived.Test.YtigafjdacllohaaDoorAwk
namespace Go.Proofs.YtigafjdacllohaaDoor
open Go.RowKit
set_option linter.unusedVariables false
set_option linter.unusedSimpArgs false
set_option maxRecDepth 100000

theorem txt1 (W : World) (a : List UInt8) (i : Nat) (hi : i < [a].length) : (W.alloc (.cells #[.string (strOf a)] 9)).cell? ⟨W.heap.size, i, none⟩ = some (.string (strOf ([a].getD i []))) := by
  rw [cell_row (heap_alloc_new W _)]
  match i, hi with
  | 0, _ => rfl
set_option maxHeartbeats 4000000 in
theorem length_t (t : List UInt8) (w : World) : Calls Tryd.prog 44 #[valOf (tV t)] w fun e w' => e = .returned (telling (nV t.length) 0) ∧ Below w.heap.size w w' := by
  have HB1 : Hid (Below w.heap.size w ((w.alloc (.cells #[.int .i64 2, .int .i64 0, .string (strOf t), .bool false] 23)).alloc (.cells #[.int .i64 0, .int .i64 0, .string { data := #[] }, .bool false] 23))) := below2 _ _ _
  have HT1 : Hid (TwoAB w.heap.size (tV t) Vl.zero ((w.alloc (.cells #[.int .i64 2, .int .i64 0, .string (strOf t), .bool false] 23)).alloc (.cells #[.int .i64 0, .int .i64 0, .string { data := #[] }, .bool false] 23))) := ⟨first2 _ _ _, new2 _ _ _⟩
  obtain ⟨W1, hW1⟩ : ∃ W1, (w.alloc (.cells #[.int .i64 2, .int .i64 0, .string (strOf t), .bool false] 23)).alloc (.cells #[.int .i64 0, .int .i64 0, .string { data := #[] }, .bool false] 23) = W1 := ⟨_, rfl⟩
  rw [hW1] at HB1 HT1
  have HKN : Hid (∀ W, Calls Tryd.prog 38 #[.int .i64 2, .slice (some ⟨W.heap.size, 0, none⟩) 1 1] (W.alloc (.cells #[.int .i64 2, .int .i64 0, .string (strOf t), .bool false] 23)) fun e w' => e = .returned (.tuple #[.bool true, .int .i64 0]) ∧ Below W.heap.size W w') := fun W =>
    (known_any (vs1 W (tV t)) 2).mono fun e w' ⟨h1, h2⟩ => ⟨h1, ((Below.refl _ W).alloc (Nat.le_refl _) _).trans (h2.mono (by simp))⟩
  have HN : Hid (∀ n W, Calls Tryd.prog 51 #[.int .i64 n] W fun e w' => e = .returned (.agg #[.int .i64 1, .int .i64 n, .string { data := #[] }, .bool false]) ∧ Below W.heap.size W w') := number_any
  have HE : Hid (∀ W W' : World, Below W.heap.size W W' → telling (nV t.length) 0 = telling (nV ((strOf t).size : Int)) 0) := fun _ _ _ => by rw [strOf_size]
  have HV : Hid (valOf (tV t) = .agg #[.int .i64 2, .int .i64 0, .string (strOf t), .bool false]) := rfl
  rw [HV.out]
  have HE2 : Hid (telling (nV t.length) 0 = telling (nV ((strOf t).size : Int)) 0) := HE.out w w (Below.refl _ _)
  clear HE HV
  rw [HE2.out]
  clear HE2
  go_enter Tryd.func44, Tryd.ntmps44
  go_upto_region 1 with fail
  try rw [hW1]
  clear hW1
  generalize hq : w.heap.size = q at HT1 ⊢
  have HQ := hide hq
  clear hq
  obtain ⟨a0, a1, a2, a3⟩ : W1.cell? ⟨q, 0, none⟩ = some (.int .i64 2) ∧ W1.cell? ⟨q, 1, none⟩ = some (.int .i64 0) ∧ W1.cell? ⟨q, 2, none⟩ = some (.string (strOf t)) ∧ W1.cell? ⟨q, 3, none⟩ = some (.bool false) := HT1.out.a.cells
  go_wp2_with (first
    | (go_at_call 38; refine (HKN.out _).mono ?_; rintro e W2 ⟨rfl, hb2⟩; have HB2 := hide hb2; clear hb2; have HT2 := hide (HT1.out.belowW HB2.out); obtain ⟨c0, c1, c2, c3⟩ : W2.cell? ⟨q, 0, none⟩ = some (.int .i64 2) ∧ W2.cell? ⟨q, 1, none⟩ = some (.int .i64 0) ∧ W2.cell? ⟨q, 2, none⟩ = some (.string (strOf t)) ∧ W2.cell? ⟨q, 3, none⟩ = some (.bool false) := HT2.out.a.cells)
    | (go_at_call 51; refine (HN.out _ _).mono ?_; rintro e W3 ⟨rfl, hb3⟩; have HB3 := hide hb3; clear hb3; have HT3 := hide (HT2.out.belowW HB3.out))
    | (refine wpList_store_val rfl (.tmp 2) (.tmp 23) rfl rfl (q + 1) Vl.zero (nV ((strOf t).size : Int)) rfl rfl HT3.out.b ?_))
  refine bodyPost_ret (v := telling (nV ((strOf t).size : Int)) 0) (results_ct Tryd.results44 _ _ (q + 1) 23 _ (0, 0) _ rfl (Box.after HT3.out.b (nV ((strOf t).size : Int))) Tryd.underlying23 rfl Tryd.size23) rfl ?_
  exact ⟨rfl, below_setRow (thenW (thenW HB1.out HB2.out) HB3.out) (by rw [HQ.out]; omega) _⟩
set_option maxHeartbeats 4000000 in
theorem plain_t (t : List UInt8) (hl : t.length ≤ 140737488355328) (w : World) : Calls Tryd.prog 75 #[valOf (tV t)] w fun e w' => e = .returned (valOf (tV t)) ∧ Below w.heap.size w w' := by
  have HB1 : Hid (Below w.heap.size w ((w.alloc (.cells #[.int .i64 2, .int .i64 0, .string (strOf t), .bool false] 23)).alloc (.cells #[.int .i64 0, .int .i64 0, .string { data := #[] }, .bool false] 23))) := below2 _ _ _
  have HT1 : Hid (TwoAB w.heap.size (tV t) Vl.zero ((w.alloc (.cells #[.int .i64 2, .int .i64 0, .string (strOf t), .bool false] 23)).alloc (.cells #[.int .i64 0, .int .i64 0, .string { data := #[] }, .bool false] 23))) := ⟨first2 _ _ _, new2 _ _ _⟩
  obtain ⟨W1, hW1⟩ : ∃ W1, (w.alloc (.cells #[.int .i64 2, .int .i64 0, .string (strOf t), .bool false] 23)).alloc (.cells #[.int .i64 0, .int .i64 0, .string { data := #[] }, .bool false] 23) = W1 := ⟨_, rfl⟩
  rw [hW1] at HB1 HT1
  have HTX : Hid (∀ W, Calls Tryd.prog 42 #[.slice (some ⟨W.heap.size, 0, none⟩) 1 1] (W.alloc (.cells #[.string (strOf t)] 9)) fun e w' => e = .returned (.agg #[.int .i64 2, .int .i64 0, .string (strOf t), .bool false]) ∧ Below W.heap.size W w') := fun W =>
    (text_any (l := [t]) (txt1 W t) (by simp; omega) (by simp)).mono fun e w' ⟨h1, h2⟩ => ⟨by rw [h1]; simp [valOf, tV], ((Below.refl _ W).alloc (Nat.le_refl _) _).trans (h2.mono (by simp))⟩
  have HV : Hid (valOf (tV t) = .agg #[.int .i64 2, .int .i64 0, .string (strOf t), .bool false]) := rfl
  rw [HV.out]
  clear hl
  go_enter Tryd.func75, Tryd.ntmps75
  go_upto_region 1 with fail
  try rw [hW1]
  clear hW1
  generalize hq : w.heap.size = q at HT1 ⊢
  have HQ := hide hq
  clear hq
  obtain ⟨a0, a1, a2, a3⟩ : W1.cell? ⟨q, 0, none⟩ = some (.int .i64 2) ∧ W1.cell? ⟨q, 1, none⟩ = some (.int .i64 0) ∧ W1.cell? ⟨q, 2, none⟩ = some (.string (strOf t)) ∧ W1.cell? ⟨q, 3, none⟩ = some (.bool false) := HT1.out.a.cells
  go_wp2_with (first
    | (go_at_call 42; refine (HTX.out _).mono ?_; rintro e W2 ⟨rfl, hb2⟩; have HB2 := hide hb2; clear hb2; have HT2 := hide (HT1.out.belowW HB2.out))
    | (refine wpList_store_val rfl (.tmp 2) (.tmp 15) rfl rfl (q + 1) Vl.zero (tV t) rfl rfl HT2.out.b ?_))
  refine bodyPost_ret (v := valOf (tV t)) (results_cell_row Tryd.results75 _ _ (q + 1) 23 _ (0, 0) _ rfl (Box.after HT2.out.b (tV t)) Tryd.underlying23 rfl Tryd.size23) rfl ?_
  exact ⟨rfl, below_setRow (thenW HB1.out HB2.out) (by rw [HQ.out]; omega) _⟩
set_option maxHeartbeats 4000000 in
theorem coalesce_t {w : World} {v : Value} {l : List Vl} (h : VsAt w v l) (t : List UInt8) (hl : t.length ≤ 140737488355328) (hf : firstL l = tV t) (hk : knownE 2 l = 0) : Calls Tryd.prog 46 #[v] w fun e w' => e = .returned (telling (tV t) 0) ∧ Below w.heap.size w w' := by
  obtain ⟨ao, c, rfl, hc1, hc2⟩ := h.len
  simp only [maxLen] at hc2
  have HR := hide (zero_r w)
  have HAL : Hid (Below w.heap.size w (w.alloc (.cells #[.int .i64 0, .int .i64 0, .string { data := #[] }, .bool false] 23))) := (Below.refl _ w).alloc (Nat.le_refl _) _
  have H : Hid (VsAt (w.alloc (.cells #[.int .i64 0, .int .i64 0, .string { data := #[] }, .bool false] 23)) (.slice ao l.length c) l) := h.belowW HAL.out
  obtain ⟨W1, hW1⟩ : ∃ W1, w.alloc (.cells #[.int .i64 0, .int .i64 0, .string { data := #[] }, .bool false] 23) = W1 := ⟨_, rfl⟩
  rw [hW1] at HR HAL H
  have HFI : Hid (∀ (W : World), VsAt W (.slice ao l.length c) l → Calls Tryd.prog 39 #[.slice ao l.length c] W fun e w' => e = .returned (.agg #[.int .i64 2, .int .i64 0, .string (strOf t), .bool false]) ∧ Below W.heap.size W w') := fun W h => by
    have := first_any h
    rw [hf] at this
    exact this
  have HKN : Hid (∀ (W : World), VsAt W (.slice ao l.length c) l → Calls Tryd.prog 38 #[.int .i64 2, .slice ao l.length c] W fun e w' => e = .returned (.tuple #[.bool (knownA 2 true l), .int .i64 0]) ∧ Below W.heap.size W w') := fun W h => by
    have := known_any h 2
    rw [hk] at this
    exact this
  have HPL : Hid (∀ W, Calls Tryd.prog 75 #[.agg #[.int .i64 2, .int .i64 0, .string (strOf t), .bool false]] W fun e w' => e = .returned (.agg #[.int .i64 2, .int .i64 0, .string (strOf t), .bool false]) ∧ Below W.heap.size W w') := plain_t t hl
  generalize knownA 2 true l = ka at *
  clear hf hk hl h
  generalize l.length = L at *
  go_enter Tryd.func46, Tryd.ntmps46
  go_upto_region 1 with fail
  try rw [hW1]
  clear hW1
  generalize hq : w.heap.size = q at HR ⊢
  have HQ := hide hq
  clear hq
  go_wp2_with (first
    | (go_at_call 39; refine (HFI.out _ H.out).mono ?_; rintro e W2 ⟨rfl, hb2⟩; have HB2 := hide hb2; clear hb2; have HR2 := hide (HR.out.belowW HB2.out); have H2 := hide ((H.out.belowW HB2.out).belowW ((Below.refl _ _).alloc (Nat.le_refl _) (.cells #[.int .i64 2, .int .i64 0, .string (strOf t), .bool false] 23))); have HX2 : Hid (Box (W2.alloc (.cells #[.int .i64 2, .int .i64 0, .string (strOf t), .bool false] 23)) W2.heap.size (tV t)) := heap_alloc_new _ _)
    | (go_at_call 38; refine (HKN.out _ H2.out).mono ?_; rintro e W3 ⟨rfl, hb3⟩; have HB3 := hide hb3; clear hb3; have HX3 := hide (HX2.out.belowW HB3.out); have HR3 := hide ((HR2.out.belowW ((Below.refl _ _).alloc (Nat.le_refl _) _)).belowW HB3.out); obtain ⟨c0, c1, c2, c3⟩ : W3.cell? ⟨W2.heap.size, 0, none⟩ = some (.int .i64 2) ∧ W3.cell? ⟨W2.heap.size, 1, none⟩ = some (.int .i64 0) ∧ W3.cell? ⟨W2.heap.size, 2, none⟩ = some (.string (strOf t)) ∧ W3.cell? ⟨W2.heap.size, 3, none⟩ = some (.bool false) := HX3.out.cells; have l3 := lt_of_heap HX3.out)
    | (go_at_call 75; refine (HPL.out _).mono ?_; rintro e W4 ⟨rfl, hb4⟩; have HB4 := hide hb4; clear hb4; have HR4 := hide (HR3.out.belowW HB4.out))
    | (refine wpList_store_val rfl (.tmp 2) (.tmp 21) rfl rfl q Vl.zero (tV t) rfl rfl HR4.out ?_))
  refine bodyPost_ret (v := telling (tV t) 0) (results_ct Tryd.results46 _ _ q 23 _ (0, 0) _ rfl (Box.after HR4.out (tV t)) Tryd.underlying23 rfl Tryd.size23) rfl ?_
  exact ⟨rfl, below_setRow (thenW (thenW (allocW' (thenW HAL.out HB2.out) _) HB3.out) HB4.out) (by rw [HQ.out]; exact Nat.le_refl _) _⟩
end Go.Proofs.YtigafjdacllohaaDoor
