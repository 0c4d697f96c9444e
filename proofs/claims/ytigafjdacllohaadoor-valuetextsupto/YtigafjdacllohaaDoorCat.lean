/- value.Call by name, and the law's cat; for ValueTexts. -/
import Derived.Test.YtigafjdacllohaaDoorCal
namespace Go.Proofs.YtigafjdacllohaaDoor
open Go.RowKit
set_option linter.unusedVariables false
set_option linter.unusedSimpArgs false
set_option maxRecDepth 100000

set_option maxHeartbeats 4000000 in
theorem call_len {w : World} {v : Value} (t : List UInt8) (h : VsAt w v [tV t]) : Calls Tryd.prog 17 #[.string { data := #[108, 101, 110, 103, 116, 104] }, v] w fun e w' => e = .returned (telling (nV t.length) 0) ∧ Below w.heap.size w w' := by
  obtain ⟨ao, c, rfl, hc1, hc2⟩ := h.len
  simp only [maxLen] at hc2
  have HR := hide (zero_r w)
  have HAL : Hid (Below w.heap.size w (w.alloc (.cells #[.int .i64 0, .int .i64 0, .string { data := #[] }, .bool false] 23))) := (Below.refl _ w).alloc (Nat.le_refl _) _
  have H : VsAt (w.alloc (.cells #[.int .i64 0, .int .i64 0, .string { data := #[] }, .bool false] 23)) (.slice ao 1 c) [tV t] := h.belowW HAL.out
  obtain ⟨W1, hW1⟩ : ∃ W1, w.alloc (.cells #[.int .i64 0, .int .i64 0, .string { data := #[] }, .bool false] 23) = W1 := ⟨_, rfl⟩
  rw [hW1] at HR HAL H
  have HLN : Hid (∀ W, Calls Tryd.prog 44 #[.agg #[.int .i64 2, .int .i64 0, .string (strOf t), .bool false]] W fun e w' => e = .returned (.tuple #[.agg #[.int .i64 1, .int .i64 (t.length : Int), .string { data := #[] }, .bool false], .int .i64 0]) ∧ Below W.heap.size W w') := length_t t
  obtain ⟨g, o, hao, hC⟩ := H.get 0 (by simp)
  subst hao
  obtain ⟨k0, k1, k2, k3⟩ : W1.cell? ⟨g, o, none⟩ = some (.int .i64 2) ∧ W1.cell? ⟨g, o + 1, none⟩ = some (.int .i64 0) ∧ W1.cell? ⟨g, o + 2, none⟩ = some (.string (strOf t)) ∧ W1.cell? ⟨g, o + 3, none⟩ = some (.bool false) := ⟨by simpa [tV] using hC.c0, by simpa [tV] using hC.c1, by simpa [tV] using hC.c2, by simpa [tV] using hC.c3⟩
  have hgl := World.block_lt_of_cell? W1 _ k0
  clear h H hC
  show Calls Tryd.prog 17 #[.string { data := #[108, 101, 110, 103, 116, 104] }, .slice (some ⟨g, o, none⟩) 1 c] w _
  have HE : Hid (telling (nV t.length) 0 = .tuple #[.agg #[.int .i64 1, .int .i64 (t.length : Int), .string { data := #[] }, .bool false], .int .i64 0]) := rfl
  rw [HE.out]
  have HV : Hid (nV (t.length : Int) = nV (t.length : Int)) := rfl
  generalize (t.length : Int) = N at *
  go_enter Tryd.func17, Tryd.ntmps17
  go_upto_region 1 with fail
  try rw [hW1]
  clear hW1
  generalize hq : w.heap.size = q at HR ⊢
  have HQ := hide hq
  clear hq
  go_wp2_with (first
    | (go_at_call 44; refine (HLN.out _).mono ?_; rintro e W2 ⟨rfl, hb2⟩; have HB2 := hide hb2; clear hb2; have HR2 := hide (HR.out.belowW HB2.out))
    | (refine wpList_store_val rfl (.tmp 4) (.tmp 18) rfl rfl q Vl.zero (nV N) rfl rfl HR2.out ?_))
  refine bodyPost_ret (v := telling (nV N) 0) (results_ct Tryd.results17 _ _ q 23 _ (0, 0) _ rfl (Box.after HR2.out (nV N)) Tryd.underlying23 rfl Tryd.size23) rfl ?_
  exact ⟨rfl, below_setRow (thenW HAL.out HB2.out) (by rw [HQ.out]; exact Nat.le_refl _) _⟩
set_option maxHeartbeats 4000000 in
theorem call_coal {w : World} {v : Value} {l : List Vl} (h : VsAt w v l) (h4 : l.length = 4) (t : List UInt8) (hl : t.length ≤ 140737488355328) (hf : firstL l = tV t) (hk : knownE 2 l = 0) : Calls Tryd.prog 17 #[.string { data := #[99, 111, 97, 108, 101, 115, 99, 101] }, v] w fun e w' => e = .returned (telling (tV t) 0) ∧ Below w.heap.size w w' := by
  obtain ⟨ao, c, rfl, hc1, hc2⟩ := h.len
  rw [h4] at h hc1 ⊢
  simp only [maxLen] at hc2
  have HR := hide (zero_r w)
  have HAL : Hid (Below w.heap.size w (w.alloc (.cells #[.int .i64 0, .int .i64 0, .string { data := #[] }, .bool false] 23))) := (Below.refl _ w).alloc (Nat.le_refl _) _
  have H : Hid (VsAt (w.alloc (.cells #[.int .i64 0, .int .i64 0, .string { data := #[] }, .bool false] 23)) (.slice ao 4 c) l) := h.belowW HAL.out
  obtain ⟨W1, hW1⟩ : ∃ W1, w.alloc (.cells #[.int .i64 0, .int .i64 0, .string { data := #[] }, .bool false] 23) = W1 := ⟨_, rfl⟩
  rw [hW1] at HR HAL H
  have HCO : Hid (∀ W, VsAt W (.slice ao 4 c) l → Calls Tryd.prog 46 #[.slice ao 4 c] W fun e w' => e = .returned (.tuple #[.agg #[.int .i64 2, .int .i64 0, .string (strOf t), .bool false], .int .i64 0]) ∧ Below W.heap.size W w') := fun W hW => coalesce_t hW t hl hf hk
  clear h h4 hl hf hk
  go_enter Tryd.func17, Tryd.ntmps17
  go_upto_region 1 with fail
  try rw [hW1]
  clear hW1
  generalize hq : w.heap.size = q at HR ⊢
  have HQ := hide hq
  clear hq
  go_wp2_with (first
    | (go_at_call 46; refine (HCO.out _ H.out).mono ?_; rintro e W2 ⟨rfl, hb2⟩; have HB2 := hide hb2; clear hb2; have HR2 := hide (HR.out.belowW HB2.out))
    | (refine wpList_store_val rfl (.tmp 4) (.tmp 44) rfl rfl q Vl.zero (tV t) rfl rfl HR2.out ?_))
  refine bodyPost_ret (v := telling (tV t) 0) (results_ct Tryd.results17 _ _ q 23 _ (0, 0) _ rfl (Box.after HR2.out (tV t)) Tryd.underlying23 rfl Tryd.size23) rfl ?_
  exact ⟨rfl, below_setRow (thenW HAL.out HB2.out) (by rw [HQ.out]; exact Nat.le_refl _) _⟩
set_option maxHeartbeats 4000000 in
theorem cat_any (A B : Vl) (hA : A.wf) (hB : B.wf) (hl : A.t.length + B.t.length ≤ 100000000000) (w : World) : Calls Tryd.prog 15 #[valOf A, valOf B] w fun e w' => e = .returned (valOf (mathP 23 A B).1) ∧ Below w.heap.size w w' := by
  obtain ⟨W1, hW1⟩ : ∃ W1, ((w.alloc (.cells #[.int .i64 A.ty, .int .i64 A.n, .string (strOf A.t), .bool A.b] 23)).alloc (.cells #[.int .i64 B.ty, .int .i64 B.n, .string (strOf B.t), .bool B.b] 23)).alloc (.cells #[.int .i64 0, .int .i64 0, .string { data := #[] }, .bool false] 23) = W1 := ⟨_, rfl⟩
  have HB1 : Hid (Below w.heap.size w W1) := by rw [← hW1]; exact below3 _ _ _ _
  have HT1 : Hid (Two w.heap.size A B W1) := by rw [← hW1]; exact two_new w A B
  have HMA : Hid (∀ W, Calls Tryd.prog 16 #[.int .i64 23, .agg #[.int .i64 A.ty, .int .i64 A.n, .string (strOf A.t), .bool A.b], .agg #[.int .i64 B.ty, .int .i64 B.n, .string (strOf B.t), .bool B.b]] W fun e w' => e = .returned (.tuple #[.agg #[.int .i64 (mathP 23 A B).1.ty, .int .i64 (mathP 23 A B).1.n, .string (strOf (mathP 23 A B).1.t), .bool (mathP 23 A B).1.b], .int .i64 (mathP 23 A B).2]) ∧ Below W.heap.size W w') := math_any 23 A B hA hB hl
  generalize (mathP 23 A B).1 = V at *
  generalize (mathP 23 A B).2 = er at *
  unfold valOf
  clear hA hB hl
  go_enter Tryd.func15, Tryd.ntmps15
  go_upto_region 1 with fail
  try rw [hW1]
  clear hW1
  generalize hq : w.heap.size = q at HT1 ⊢
  have HQ := hide hq
  clear hq
  obtain ⟨a0, a1, a2, a3⟩ := HT1.out.a.cells
  obtain ⟨b0, b1, b2, b3⟩ := HT1.out.b.cells
  go_wp2_with (first
    | (go_at_call 16; refine (HMA.out _).mono ?_; rintro e W2 ⟨rfl, hb2⟩; have HB2 := hide hb2; clear hb2; have HT2 := hide ((HT1.out.belowW HB2.out).alloc (.cells #[.int .i64 V.ty, .int .i64 V.n, .string (strOf V.t), .bool V.b] 23)))
    | (refine wpList_store_val rfl (.tmp 4) (.tmp 13) rfl rfl (q + 2) Vl.zero V rfl rfl HT2.out.r ?_))
  refine bodyPost_ret (v := valOf V) (results_cell_row Tryd.results15 _ _ (q + 2) 23 _ (0, 0) _ rfl (Box.after HT2.out.r V) Tryd.underlying23 rfl Tryd.size23) rfl ?_
  exact ⟨rfl, below_setRow (allocW' (thenW HB1.out HB2.out) _) (by rw [HQ.out]; omega) _⟩
end Go.Proofs.YtigafjdacllohaaDoor
