/- And, Or, Not, Neg. -/
import Derived.Test.YtigafjdacllohaaDoorLvl
namespace Go.Proofs.YtigafjdacllohaaDoor
open Go.RowKit
set_option linter.unusedVariables false
set_option linter.unusedSimpArgs false
set_option maxRecDepth 100000

theorem Box.other {w : World} {b r : Nat} {V : Vl} (h : Box w b V) (C : Array Value) (hr : b ≠ r) : Box (w.setRow r C) b V := by
  have e : (w.setRow r C).heap[b]? = w.heap[b]? := by
    have : r ≠ b := fun e => hr e.symm
    simp [World.setRow, Array.getElem?_modify, this]
  exact e.trans h
structure TwoAB (q : Nat) (A B : Vl) (W : World) : Prop where
  a : Box W q A
  b : Box W (q + 1) B
theorem TwoAB.belowW {q : Nat} {A B : Vl} {w w' : World} (h : TwoAB q A B w) (hb : Below w.heap.size w w') : TwoAB q A B w' := ⟨h.a.belowW hb, h.b.belowW hb⟩
theorem TwoAB.set {q : Nat} {A B : Vl} {w : World} (h : TwoAB q A B w) (C : Array Value) : TwoAB q A B (w.setRow (q + 2) C) := ⟨h.a.other C (by omega), h.b.other C (by omega)⟩
theorem TwoAB.drewN {q : Nat} {A B : Vl} {w : World} (h : TwoAB q A B w) (m : Nat) : TwoAB q A B (w.drewN m) := ⟨h.a, h.b⟩
def andP (A B : Vl) : Vl × Int := if knownE 3 [A, B] ≠ 0 then (Vl.zero, 160) else (truthOf (min (lvl A) (lvl B)), 0)
def orP (A B : Vl) : Vl × Int := if knownE 3 [A, B] ≠ 0 then (Vl.zero, 160) else (truthOf (max (lvl A) (lvl B)), 0)
def notP (A : Vl) : Vl × Int := if knownE 3 [A] ≠ 0 then (Vl.zero, 160) else (truthOf (2 - lvl A), 0)
set_option maxHeartbeats 4000000 in
theorem and_any (A B : Vl) (w : World) : Calls Tryd.prog 22 #[valOf A, valOf B] w fun e w' => e = .returned (telling (andP A B).1 (andP A B).2) ∧ Below w.heap.size w w' := by
  obtain ⟨W1, hW1⟩ : ∃ W1, ((w.alloc (.cells #[.int .i64 A.ty, .int .i64 A.n, .string (strOf A.t), .bool A.b] 23)).alloc (.cells #[.int .i64 B.ty, .int .i64 B.n, .string (strOf B.t), .bool B.b] 23)).alloc (.cells #[.int .i64 0, .int .i64 0, .string { data := #[] }, .bool false] 23) = W1 := ⟨_, rfl⟩
  have HB1 : Hid (Below w.heap.size w W1) := by rw [← hW1]; exact below3 _ _ _ _
  have HT1 : Hid (Two w.heap.size A B W1) := by rw [← hW1]; exact two_new w A B
  have HKN : Hid (∀ W, Calls Tryd.prog 38 #[.int .i64 3, .slice (some ⟨W.heap.size, 0, none⟩) 2 2] (W.alloc (.cells #[.int .i64 A.ty, .int .i64 A.n, .string (strOf A.t), .bool A.b, .int .i64 B.ty, .int .i64 B.n, .string (strOf B.t), .bool B.b] 23)) fun e w' => e = .returned (.tuple #[.bool (knownA 3 true [A, B]), .int .i64 (knownE 3 [A, B])]) ∧ Below W.heap.size W w') := fun W =>
    (known_any (vs2 W A B) _).mono fun e w' ⟨h1, h2⟩ => ⟨h1, ((Below.refl _ W).alloc (Nat.le_refl _) _).trans (h2.mono (by simp))⟩
  have HLA : Hid (∀ W, Calls Tryd.prog 55 #[.agg #[.int .i64 A.ty, .int .i64 A.n, .string (strOf A.t), .bool A.b]] W fun e w' => e = .returned (.int .i64 (lvl A)) ∧ Below W.heap.size W w') := level_any A
  have HLB : Hid (∀ W, Calls Tryd.prog 55 #[.agg #[.int .i64 B.ty, .int .i64 B.n, .string (strOf B.t), .bool B.b]] W fun e w' => e = .returned (.int .i64 (lvl B)) ∧ Below W.heap.size W w') := level_any B
  have HTR : Hid (∀ W, Calls Tryd.prog 54 #[.int .i64 (min (lvl A) (lvl B))] W fun e w' => e = .returned (.agg #[.int .i64 (truthOf (min (lvl A) (lvl B))).ty, .int .i64 (truthOf (min (lvl A) (lvl B))).n, .string (strOf (truthOf (min (lvl A) (lvl B))).t), .bool (truthOf (min (lvl A) (lvl B))).b]) ∧ Below W.heap.size W w') := truth_any _
  have HMP : Hid (andP A B = if knownE 3 [A, B] ≠ 0 then (Vl.zero, 160) else (truthOf (min (lvl A) (lvl B)), 0)) := rfl
  have hke := knownE_or 3 [A, B]
  have HLO := hide (lvl_or A)
  have HLP := hide (lvl_or B)
  generalize truthOf (min (lvl A) (lvl B)) = V at *
  generalize lvl A = la at *
  generalize lvl B = lb at *
  generalize andP A B = mp at *
  generalize knownE 3 [A, B] = ke at *
  generalize knownA 3 true [A, B] = ka at *
  unfold valOf
  rcases hke with rfl | rfl
  · have HE : Hid (mp = (V, 0)) := HMP.out
    clear HMP
    go_enter Tryd.func22, Tryd.ntmps22
    go_upto_region 1 with fail
    try rw [hW1]
    clear hW1
    generalize hq : w.heap.size = q at HT1 ⊢
    have HQ := hide hq
    clear hq
    obtain ⟨a0, a1, a2, a3⟩ := HT1.out.a.cells
    obtain ⟨b0, b1, b2, b3⟩ := HT1.out.b.cells
    go_upto_region 4 with (go_at_call 38; refine (HKN.out _).mono ?_; rintro e W2 ⟨rfl, hb2⟩; have HB2 := hide hb2; clear hb2; have HT2 := hide (HT1.out.belowW HB2.out))
    clear a0 a1 a2 a3 b0 b1 b2 b3
    refine wp_region_held_drew (S := TwoAB q A B) (by kernel_rfl) ⟨HT2.out.a, HT2.out.b⟩ (fun hH => ?_)
    refine take_to 0 19 (.agg #[.int .i64 A.ty, .int .i64 A.n, .string (strOf A.t), .bool A.b]) rfl (by kernel_rfl) (by kernel_rfl) (by kernel_rfl) (fun _ _ _ h => h) rfl (by rfl) (fun w hw => op_load _ _ 23 (.tmp 2) rfl (.pointer (some ⟨q, 0, none⟩)) _ rfl (load23 hw.a)) hH ?_
    simp only [Act.put, List.setIfInBounds_toArray, List.set_cons_zero, List.set_cons_succ]
    refine take_to 2 21 (.agg #[.int .i64 B.ty, .int .i64 B.n, .string (strOf B.t), .bool B.b]) rfl (by kernel_rfl) (by kernel_rfl) (by kernel_rfl) (fun _ _ _ h => h) rfl (by rfl) (fun w hw => op_load _ _ 23 (.tmp 3) rfl (.pointer (some ⟨q + 1, 0, none⟩)) _ rfl (load23 hw.b)) hH ?_
    simp only [Act.put, List.setIfInBounds_toArray, List.set_cons_zero, List.set_cons_succ]
    refine step_call1_to 1 20 55 rfl (by kernel_rfl) rfl (by rfl) (.tmp 19) _ rfl _ rfl Tryd.enters55 (HLA.out _) ?_
    rintro e u1 ⟨rfl, hb1⟩
    have hH1 := hH.belowW hb1
    refine ⟨_, rfl, hH1, ?_⟩
    simp only [Act.put, List.setIfInBounds_toArray, List.set_cons_zero, List.set_cons_succ]
    refine step_call1_to 3 22 55 rfl (by kernel_rfl) rfl (by rfl) (.tmp 21) _ rfl _ rfl Tryd.enters55 (HLB.out _) ?_
    rintro e u2 ⟨rfl, hb2⟩
    have hH2 := hH1.belowW hb2
    refine ⟨_, rfl, hH2, ?_⟩
    simp only [Act.put, List.setIfInBounds_toArray, List.set_cons_zero, List.set_cons_succ]
    refine step_to 4 23 (.int .i64 (min la lb)) u2 rfl (by kernel_rfl) rfl (by rfl) (op_min3 _ _ (.tmp 20) (.tmp 22) rfl la lb HLO.out HLP.out rfl rfl) hH2 ?_
    simp only [Act.put, List.setIfInBounds_toArray, List.set_cons_zero, List.set_cons_succ]
    refine step_call1_to 5 24 54 rfl (by kernel_rfl) rfl (by rfl) (.tmp 23) _ rfl _ rfl Tryd.enters54 (HTR.out _) ?_
    rintro e u3 ⟨rfl, hb3⟩
    have hH3 := hH2.belowW hb3
    refine ⟨_, rfl, hH3, ?_⟩
    simp only [Act.put, List.setIfInBounds_toArray, List.set_cons_zero, List.set_cons_succ]
    have HBC : Below W2.heap.size W2 u3 := thenW (thenW ((below_drewN _ _ 1).trans hb1) hb2) hb3
    have hres := HT2.out.r.belowW HBC
    refine step_store_to 6 (u3.setRow (q + 2) #[.int .i64 V.ty, .int .i64 V.n, .string (strOf V.t), .bool V.b]) rfl (by kernel_rfl) rfl (by rfl) 23 (.tmp 4) (.tmp 24) rfl _ _ rfl rfl (store_val hres V) (hH3.set _) ?_
    refine step_to 7 5 (.int .i64 0) _ rfl (by kernel_rfl) rfl (by rfl) (rfl) (hH3.set _) ?_
    simp only [Act.put, List.setIfInBounds_toArray, List.set_cons_zero, List.set_cons_succ]
    refine wpAnyH_done (by kernel_rfl) ?_ _
    go_wp2
    refine bodyPost_ret (v := telling V 0) (results_ct Tryd.results22 _ _ (q + 2) 23 _ (0, 0) _ rfl (Box.after hres V) Tryd.underlying23 rfl Tryd.size23) rfl ?_
    rw [HE.out]
    exact ⟨rfl, below_setRow (thenW (thenW HB1.out HB2.out) HBC) (by rw [HQ.out]; omega) _⟩
  · have HE : Hid (mp = (Vl.zero, 160)) := HMP.out
    clear HMP
    go_enter Tryd.func22, Tryd.ntmps22
    go_upto_region 1 with fail
    try rw [hW1]
    clear hW1
    generalize hq : w.heap.size = q at HT1 ⊢
    have HQ := hide hq
    clear hq
    obtain ⟨a0, a1, a2, a3⟩ := HT1.out.a.cells
    obtain ⟨b0, b1, b2, b3⟩ := HT1.out.b.cells
    go_wp2_with (first
      | (go_at_call 38; refine (HKN.out _).mono ?_; rintro e W2 ⟨rfl, hb2⟩; have HB2 := hide hb2; clear hb2; have HT2 := hide (HT1.out.belowW HB2.out))
      | (refine wpList_store_val rfl (.tmp 4) (.tmp 17) rfl rfl (q + 2) Vl.zero Vl.zero rfl rfl HT2.out.r ?_))
    refine bodyPost_ret (v := telling Vl.zero 160) (results_ct Tryd.results22 _ _ (q + 2) 23 _ (0, 0) _ rfl (Box.after HT2.out.r Vl.zero) Tryd.underlying23 rfl Tryd.size23) rfl ?_
    rw [HE.out]
    exact ⟨rfl, below_setRow (thenW HB1.out HB2.out) (by rw [HQ.out]; omega) _⟩
set_option maxHeartbeats 4000000 in
theorem or_any (A B : Vl) (w : World) : Calls Tryd.prog 24 #[valOf A, valOf B] w fun e w' => e = .returned (telling (orP A B).1 (orP A B).2) ∧ Below w.heap.size w w' := by
  obtain ⟨W1, hW1⟩ : ∃ W1, ((w.alloc (.cells #[.int .i64 A.ty, .int .i64 A.n, .string (strOf A.t), .bool A.b] 23)).alloc (.cells #[.int .i64 B.ty, .int .i64 B.n, .string (strOf B.t), .bool B.b] 23)).alloc (.cells #[.int .i64 0, .int .i64 0, .string { data := #[] }, .bool false] 23) = W1 := ⟨_, rfl⟩
  have HB1 : Hid (Below w.heap.size w W1) := by rw [← hW1]; exact below3 _ _ _ _
  have HT1 : Hid (Two w.heap.size A B W1) := by rw [← hW1]; exact two_new w A B
  have HKN : Hid (∀ W, Calls Tryd.prog 38 #[.int .i64 3, .slice (some ⟨W.heap.size, 0, none⟩) 2 2] (W.alloc (.cells #[.int .i64 A.ty, .int .i64 A.n, .string (strOf A.t), .bool A.b, .int .i64 B.ty, .int .i64 B.n, .string (strOf B.t), .bool B.b] 23)) fun e w' => e = .returned (.tuple #[.bool (knownA 3 true [A, B]), .int .i64 (knownE 3 [A, B])]) ∧ Below W.heap.size W w') := fun W =>
    (known_any (vs2 W A B) _).mono fun e w' ⟨h1, h2⟩ => ⟨h1, ((Below.refl _ W).alloc (Nat.le_refl _) _).trans (h2.mono (by simp))⟩
  have HLA : Hid (∀ W, Calls Tryd.prog 55 #[.agg #[.int .i64 A.ty, .int .i64 A.n, .string (strOf A.t), .bool A.b]] W fun e w' => e = .returned (.int .i64 (lvl A)) ∧ Below W.heap.size W w') := level_any A
  have HLB : Hid (∀ W, Calls Tryd.prog 55 #[.agg #[.int .i64 B.ty, .int .i64 B.n, .string (strOf B.t), .bool B.b]] W fun e w' => e = .returned (.int .i64 (lvl B)) ∧ Below W.heap.size W w') := level_any B
  have HTR : Hid (∀ W, Calls Tryd.prog 54 #[.int .i64 (max (lvl A) (lvl B))] W fun e w' => e = .returned (.agg #[.int .i64 (truthOf (max (lvl A) (lvl B))).ty, .int .i64 (truthOf (max (lvl A) (lvl B))).n, .string (strOf (truthOf (max (lvl A) (lvl B))).t), .bool (truthOf (max (lvl A) (lvl B))).b]) ∧ Below W.heap.size W w') := truth_any _
  have HMP : Hid (orP A B = if knownE 3 [A, B] ≠ 0 then (Vl.zero, 160) else (truthOf (max (lvl A) (lvl B)), 0)) := rfl
  have hke := knownE_or 3 [A, B]
  have HLO := hide (lvl_or A)
  have HLP := hide (lvl_or B)
  generalize truthOf (max (lvl A) (lvl B)) = V at *
  generalize lvl A = la at *
  generalize lvl B = lb at *
  generalize orP A B = mp at *
  generalize knownE 3 [A, B] = ke at *
  generalize knownA 3 true [A, B] = ka at *
  unfold valOf
  rcases hke with rfl | rfl
  · have HE : Hid (mp = (V, 0)) := HMP.out
    clear HMP
    go_enter Tryd.func24, Tryd.ntmps24
    go_upto_region 1 with fail
    try rw [hW1]
    clear hW1
    generalize hq : w.heap.size = q at HT1 ⊢
    have HQ := hide hq
    clear hq
    obtain ⟨a0, a1, a2, a3⟩ := HT1.out.a.cells
    obtain ⟨b0, b1, b2, b3⟩ := HT1.out.b.cells
    go_upto_region 4 with (go_at_call 38; refine (HKN.out _).mono ?_; rintro e W2 ⟨rfl, hb2⟩; have HB2 := hide hb2; clear hb2; have HT2 := hide (HT1.out.belowW HB2.out))
    clear a0 a1 a2 a3 b0 b1 b2 b3
    refine wp_region_held_drew (S := TwoAB q A B) (by kernel_rfl) ⟨HT2.out.a, HT2.out.b⟩ (fun hH => ?_)
    refine take_to 0 19 (.agg #[.int .i64 A.ty, .int .i64 A.n, .string (strOf A.t), .bool A.b]) rfl (by kernel_rfl) (by kernel_rfl) (by kernel_rfl) (fun _ _ _ h => h) rfl (by rfl) (fun w hw => op_load _ _ 23 (.tmp 2) rfl (.pointer (some ⟨q, 0, none⟩)) _ rfl (load23 hw.a)) hH ?_
    simp only [Act.put, List.setIfInBounds_toArray, List.set_cons_zero, List.set_cons_succ]
    refine take_to 2 21 (.agg #[.int .i64 B.ty, .int .i64 B.n, .string (strOf B.t), .bool B.b]) rfl (by kernel_rfl) (by kernel_rfl) (by kernel_rfl) (fun _ _ _ h => h) rfl (by rfl) (fun w hw => op_load _ _ 23 (.tmp 3) rfl (.pointer (some ⟨q + 1, 0, none⟩)) _ rfl (load23 hw.b)) hH ?_
    simp only [Act.put, List.setIfInBounds_toArray, List.set_cons_zero, List.set_cons_succ]
    refine step_call1_to 1 20 55 rfl (by kernel_rfl) rfl (by rfl) (.tmp 19) _ rfl _ rfl Tryd.enters55 (HLA.out _) ?_
    rintro e u1 ⟨rfl, hb1⟩
    have hH1 := hH.belowW hb1
    refine ⟨_, rfl, hH1, ?_⟩
    simp only [Act.put, List.setIfInBounds_toArray, List.set_cons_zero, List.set_cons_succ]
    refine step_call1_to 3 22 55 rfl (by kernel_rfl) rfl (by rfl) (.tmp 21) _ rfl _ rfl Tryd.enters55 (HLB.out _) ?_
    rintro e u2 ⟨rfl, hb2⟩
    have hH2 := hH1.belowW hb2
    refine ⟨_, rfl, hH2, ?_⟩
    simp only [Act.put, List.setIfInBounds_toArray, List.set_cons_zero, List.set_cons_succ]
    refine step_to 4 23 (.int .i64 (max la lb)) u2 rfl (by kernel_rfl) rfl (by rfl) (op_max3 _ _ (.tmp 20) (.tmp 22) rfl la lb HLO.out HLP.out rfl rfl) hH2 ?_
    simp only [Act.put, List.setIfInBounds_toArray, List.set_cons_zero, List.set_cons_succ]
    refine step_call1_to 5 24 54 rfl (by kernel_rfl) rfl (by rfl) (.tmp 23) _ rfl _ rfl Tryd.enters54 (HTR.out _) ?_
    rintro e u3 ⟨rfl, hb3⟩
    have hH3 := hH2.belowW hb3
    refine ⟨_, rfl, hH3, ?_⟩
    simp only [Act.put, List.setIfInBounds_toArray, List.set_cons_zero, List.set_cons_succ]
    have HBC : Below W2.heap.size W2 u3 := thenW (thenW ((below_drewN _ _ 1).trans hb1) hb2) hb3
    have hres := HT2.out.r.belowW HBC
    refine step_store_to 6 (u3.setRow (q + 2) #[.int .i64 V.ty, .int .i64 V.n, .string (strOf V.t), .bool V.b]) rfl (by kernel_rfl) rfl (by rfl) 23 (.tmp 4) (.tmp 24) rfl _ _ rfl rfl (store_val hres V) (hH3.set _) ?_
    refine step_to 7 5 (.int .i64 0) _ rfl (by kernel_rfl) rfl (by rfl) (rfl) (hH3.set _) ?_
    simp only [Act.put, List.setIfInBounds_toArray, List.set_cons_zero, List.set_cons_succ]
    refine wpAnyH_done (by kernel_rfl) ?_ _
    go_wp2
    refine bodyPost_ret (v := telling V 0) (results_ct Tryd.results24 _ _ (q + 2) 23 _ (0, 0) _ rfl (Box.after hres V) Tryd.underlying23 rfl Tryd.size23) rfl ?_
    rw [HE.out]
    exact ⟨rfl, below_setRow (thenW (thenW HB1.out HB2.out) HBC) (by rw [HQ.out]; omega) _⟩
  · have HE : Hid (mp = (Vl.zero, 160)) := HMP.out
    clear HMP
    go_enter Tryd.func24, Tryd.ntmps24
    go_upto_region 1 with fail
    try rw [hW1]
    clear hW1
    generalize hq : w.heap.size = q at HT1 ⊢
    have HQ := hide hq
    clear hq
    obtain ⟨a0, a1, a2, a3⟩ := HT1.out.a.cells
    obtain ⟨b0, b1, b2, b3⟩ := HT1.out.b.cells
    go_wp2_with (first
      | (go_at_call 38; refine (HKN.out _).mono ?_; rintro e W2 ⟨rfl, hb2⟩; have HB2 := hide hb2; clear hb2; have HT2 := hide (HT1.out.belowW HB2.out))
      | (refine wpList_store_val rfl (.tmp 4) (.tmp 17) rfl rfl (q + 2) Vl.zero Vl.zero rfl rfl HT2.out.r ?_))
    refine bodyPost_ret (v := telling Vl.zero 160) (results_ct Tryd.results24 _ _ (q + 2) 23 _ (0, 0) _ rfl (Box.after HT2.out.r Vl.zero) Tryd.underlying23 rfl Tryd.size23) rfl ?_
    rw [HE.out]
    exact ⟨rfl, below_setRow (thenW HB1.out HB2.out) (by rw [HQ.out]; omega) _⟩
theorem vs1 (W : World) (A : Vl) : VsAt (W.alloc (.cells #[.int .i64 A.ty, .int .i64 A.n, .string (strOf A.t), .bool A.b] 23)) (.slice (some ⟨W.heap.size, 0, none⟩) 1 1) [A] := by
  refine ⟨_, _, rfl, Nat.le_refl _, by simp [maxLen], fun _ => ⟨_, _, rfl, fun j u hu => ?_⟩⟩
  rw [Nat.zero_add, cell_row (heap_alloc_new W _)]
  simpa [vsCells, vcells] using hu
/-- Where a function of one value stands. -/
structure One (q : Nat) (A : Vl) (W : World) : Prop where
  a : Box W q A
  r : Box W (q + 1) Vl.zero
theorem One.belowW {q : Nat} {A : Vl} {w w' : World} (h : One q A w) (hb : Below w.heap.size w w') : One q A w' := ⟨h.a.belowW hb, h.r.belowW hb⟩
theorem one_new (w : World) (A : Vl) : One w.heap.size A ((w.alloc (.cells #[.int .i64 A.ty, .int .i64 A.n, .string (strOf A.t), .bool A.b] 23)).alloc (.cells #[.int .i64 0, .int .i64 0, .string { data := #[] }, .bool false] 23)) := ⟨first2 _ _ _, new2 _ _ _⟩
theorem below2 (w : World) (o o' : Obj) : Below w.heap.size w ((w.alloc o).alloc o') := ((Below.refl _ w).alloc (Nat.le_refl _) _).alloc (by simp) _
set_option maxHeartbeats 4000000 in
theorem not_any (A : Vl) (w : World) : Calls Tryd.prog 26 #[valOf A] w fun e w' => e = .returned (telling (notP A).1 (notP A).2) ∧ Below w.heap.size w w' := by
  obtain ⟨W1, hW1⟩ : ∃ W1, (w.alloc (.cells #[.int .i64 A.ty, .int .i64 A.n, .string (strOf A.t), .bool A.b] 23)).alloc (.cells #[.int .i64 0, .int .i64 0, .string { data := #[] }, .bool false] 23) = W1 := ⟨_, rfl⟩
  have HB1 : Hid (Below w.heap.size w W1) := by rw [← hW1]; exact below2 _ _ _
  have HT1 : Hid (One w.heap.size A W1) := by rw [← hW1]; exact one_new w A
  have HKN : Hid (∀ W, Calls Tryd.prog 38 #[.int .i64 3, .slice (some ⟨W.heap.size, 0, none⟩) 1 1] (W.alloc (.cells #[.int .i64 A.ty, .int .i64 A.n, .string (strOf A.t), .bool A.b] 23)) fun e w' => e = .returned (.tuple #[.bool (knownA 3 true [A]), .int .i64 (knownE 3 [A])]) ∧ Below W.heap.size W w') := fun W =>
    (known_any (vs1 W A) _).mono fun e w' ⟨h1, h2⟩ => ⟨h1, ((Below.refl _ W).alloc (Nat.le_refl _) _).trans (h2.mono (by simp))⟩
  have HLA : Hid (∀ W, Calls Tryd.prog 55 #[.agg #[.int .i64 A.ty, .int .i64 A.n, .string (strOf A.t), .bool A.b]] W fun e w' => e = .returned (.int .i64 (lvl A)) ∧ Below W.heap.size W w') := level_any A
  have HTR : Hid (∀ W, Calls Tryd.prog 54 #[.int .i64 (2 - lvl A)] W fun e w' => e = .returned (.agg #[.int .i64 (truthOf (2 - lvl A)).ty, .int .i64 (truthOf (2 - lvl A)).n, .string (strOf (truthOf (2 - lvl A)).t), .bool (truthOf (2 - lvl A)).b]) ∧ Below W.heap.size W w') := truth_any _
  have HMP : Hid (notP A = if knownE 3 [A] ≠ 0 then (Vl.zero, 160) else (truthOf (2 - lvl A), 0)) := rfl
  have hke := knownE_or 3 [A]
  have hlo := lvl_or A
  generalize truthOf (2 - lvl A) = V at *
  generalize lvl A = la at *
  generalize notP A = mp at *
  generalize knownE 3 [A] = ke at *
  generalize knownA 3 true [A] = ka at *
  unfold valOf
  rcases hke with rfl | rfl
  · have HE : Hid (mp = (V, 0)) := HMP.out
    clear HMP
    rcases hlo with rfl | rfl | rfl
    all_goals
      go_enter Tryd.func26, Tryd.ntmps26
      go_upto_region 1 with fail
      try rw [hW1]
      clear hW1
      generalize hq : w.heap.size = q at HT1 ⊢
      have HQ := hide hq
      clear hq
      obtain ⟨a0, a1, a2, a3⟩ := HT1.out.a.cells
      go_wp2_with (first
        | (go_at_call 38; refine (HKN.out _).mono ?_; rintro e W2 ⟨rfl, hb2⟩; have HB2 := hide hb2; clear hb2; have HT2 := hide (HT1.out.belowW HB2.out); obtain ⟨c0, c1, c2, c3⟩ := HT2.out.a.cells)
        | (go_at_call 55; refine (HLA.out _).mono ?_; rintro e W3 ⟨rfl, hb3⟩; have HB3 := hide hb3; clear hb3; have HT3 := hide (HT2.out.belowW HB3.out))
        | (go_at_call 54; refine (HTR.out _).mono ?_; rintro e W4 ⟨rfl, hb4⟩; have HB4 := hide hb4; clear hb4; have HT4 := hide (HT3.out.belowW HB4.out))
        | (refine wpList_store_val rfl (.tmp 2) (.tmp 19) rfl rfl (q + 1) Vl.zero V rfl rfl HT4.out.r ?_))
      refine bodyPost_ret (v := telling V 0) (results_ct Tryd.results26 _ _ (q + 1) 23 _ (0, 0) _ rfl (Box.after HT4.out.r V) Tryd.underlying23 rfl Tryd.size23) rfl ?_
      rw [HE.out]
      exact ⟨rfl, below_setRow (thenW (thenW (thenW HB1.out HB2.out) HB3.out) HB4.out) (by rw [HQ.out]; omega) _⟩
  · have HE : Hid (mp = (Vl.zero, 160)) := HMP.out
    clear HMP hlo
    go_enter Tryd.func26, Tryd.ntmps26
    go_upto_region 1 with fail
    try rw [hW1]
    clear hW1
    generalize hq : w.heap.size = q at HT1 ⊢
    have HQ := hide hq
    clear hq
    obtain ⟨a0, a1, a2, a3⟩ := HT1.out.a.cells
    go_wp2_with (first
      | (go_at_call 38; refine (HKN.out _).mono ?_; rintro e W2 ⟨rfl, hb2⟩; have HB2 := hide hb2; clear hb2; have HT2 := hide (HT1.out.belowW HB2.out))
      | (refine wpList_store_val rfl (.tmp 2) (.tmp 14) rfl rfl (q + 1) Vl.zero Vl.zero rfl rfl HT2.out.r ?_))
    refine bodyPost_ret (v := telling Vl.zero 160) (results_ct Tryd.results26 _ _ (q + 1) 23 _ (0, 0) _ rfl (Box.after HT2.out.r Vl.zero) Tryd.underlying23 rfl Tryd.size23) rfl ?_
    rw [HE.out]
    exact ⟨rfl, below_setRow (thenW HB1.out HB2.out) (by rw [HQ.out]; omega) _⟩
def negP (A : Vl) : Vl × Int := mathP 19 (nV 0) A
structure OneA (q : Nat) (A : Vl) (W : World) : Prop where
  a : Box W q A
theorem OneA.belowW {q : Nat} {A : Vl} {w w' : World} (h : OneA q A w) (hb : Below w.heap.size w w') : OneA q A w' := ⟨h.a.belowW hb⟩
theorem OneA.set {q : Nat} {A : Vl} {w : World} (h : OneA q A w) (C : Array Value) : OneA q A (w.setRow (q + 1) C) := ⟨h.a.other C (by omega)⟩
set_option maxHeartbeats 4000000 in
theorem neg_any (A : Vl) (hA : A.wf) (hl : A.t.length ≤ 100000000000) (w : World) : Calls Tryd.prog 19 #[valOf A] w fun e w' => e = .returned (telling (negP A).1 (negP A).2) ∧ Below w.heap.size w w' := by
  obtain ⟨W1, hW1⟩ : ∃ W1, (w.alloc (.cells #[.int .i64 A.ty, .int .i64 A.n, .string (strOf A.t), .bool A.b] 23)).alloc (.cells #[.int .i64 0, .int .i64 0, .string { data := #[] }, .bool false] 23) = W1 := ⟨_, rfl⟩
  have HB1 : Hid (Below w.heap.size w W1) := by rw [← hW1]; exact below2 _ _ _
  have HT1 : Hid (One w.heap.size A W1) := by rw [← hW1]; exact one_new w A
  have HNU : Hid (∀ W, Calls Tryd.prog 51 #[.int .i64 0] W fun e w' => e = .returned (.agg #[.int .i64 1, .int .i64 0, .string { data := #[] }, .bool false]) ∧ Below W.heap.size W w') := number_any 0
  have HMA : Hid (∀ W, Calls Tryd.prog 16 #[.int .i64 19, .agg #[.int .i64 1, .int .i64 0, .string { data := #[] }, .bool false], .agg #[.int .i64 A.ty, .int .i64 A.n, .string (strOf A.t), .bool A.b]] W fun e w' => e = .returned (.tuple #[.agg #[.int .i64 (negP A).1.ty, .int .i64 (negP A).1.n, .string (strOf (negP A).1.t), .bool (negP A).1.b], .int .i64 (negP A).2]) ∧ Below W.heap.size W w') := fun W => math_any 19 (nV 0) A ⟨by decide, by decide⟩ hA (by simpa [nV] using hl) W
  generalize (negP A).1 = V at *
  generalize (negP A).2 = er at *
  unfold valOf
  clear hA hl
  go_enter Tryd.func19, Tryd.ntmps19
  go_upto_region 1 with fail
  try rw [hW1]
  clear hW1
  generalize hq : w.heap.size = q at HT1 ⊢
  have HQ := hide hq
  clear hq
  refine wp_region_held_drew (S := OneA q A) (by kernel_rfl) ⟨HT1.out.a⟩ (fun hH => ?_)
  refine take_to 1 5 (.agg #[.int .i64 A.ty, .int .i64 A.n, .string (strOf A.t), .bool A.b]) rfl (by kernel_rfl) (by kernel_rfl) (by kernel_rfl) (fun _ _ _ h => h) rfl (by rfl) (fun w hw => op_load _ _ 23 (.tmp 1) rfl (.pointer (some ⟨q, 0, none⟩)) _ rfl (load23 hw.a)) hH ?_
  simp only [Act.put, List.setIfInBounds_toArray, List.set_cons_zero, List.set_cons_succ]
  refine step_call1_to 0 4 51 rfl (by kernel_rfl) rfl (by rfl) (.const (.int .i64 0)) _ rfl _ rfl Tryd.enters51 (HNU.out _) ?_
  rintro e u1 ⟨rfl, hb1⟩
  have hH1 := hH.belowW hb1
  refine ⟨_, rfl, hH1, ?_⟩
  simp only [Act.put, List.setIfInBounds_toArray, List.set_cons_zero, List.set_cons_succ]
  refine step_call3_to 2 6 16 rfl (by kernel_rfl) rfl (by rfl) (.const (.int .i64 19)) (.tmp 4) (.tmp 5) _ rfl _ _ _ rfl rfl rfl Tryd.enters16 (HMA.out _) ?_
  rintro e u2 ⟨rfl, hb2⟩
  have hH2 := hH1.belowW hb2
  refine ⟨_, rfl, hH2, ?_⟩
  simp only [Act.put, List.setIfInBounds_toArray, List.set_cons_zero, List.set_cons_succ]
  have HBC : Below W1.heap.size W1 u2 := thenW ((below_drewN _ _ 1).trans hb1) hb2
  have hres := HT1.out.r.belowW HBC
  refine take_to 3 7 (.agg #[.int .i64 V.ty, .int .i64 V.n, .string (strOf V.t), .bool V.b]) rfl (by kernel_rfl) (by kernel_rfl) (by kernel_rfl) (fun _ _ _ h => h) rfl (by rfl) (fun w hw => by rfl) hH2 ?_
  simp only [Act.put, List.setIfInBounds_toArray, List.set_cons_zero, List.set_cons_succ]
  refine take_to 4 8 (.int .i64 er) rfl (by kernel_rfl) (by kernel_rfl) (by kernel_rfl) (fun _ _ _ h => h) rfl (by rfl) (fun w hw => by rfl) hH2 ?_
  simp only [Act.put, List.setIfInBounds_toArray, List.set_cons_zero, List.set_cons_succ]
  refine step_store_to 5 (u2.setRow (q + 1) #[.int .i64 V.ty, .int .i64 V.n, .string (strOf V.t), .bool V.b]) rfl (by kernel_rfl) rfl (by rfl) 23 (.tmp 2) (.tmp 7) rfl _ _ rfl rfl (store_val hres V) (hH2.set _) ?_
  refine step_to 6 3 (.int .i64 er) _ rfl (by kernel_rfl) rfl (by rfl) (rfl) (hH2.set _) ?_
  simp only [Act.put, List.setIfInBounds_toArray, List.set_cons_zero, List.set_cons_succ]
  refine wpAnyH_done (by kernel_rfl) ?_ _
  go_wp2
  refine bodyPost_ret (v := telling V er) (results_ct Tryd.results19 _ _ (q + 1) 23 _ (0, 0) _ rfl (Box.after hres V) Tryd.underlying23 rfl Tryd.size23) rfl ?_
  exact ⟨rfl, below_setRow (thenW HB1.out HBC) (by rw [HQ.out]; omega) _⟩
end Go.Proofs.YtigafjdacllohaaDoor
