/- The walk of ValueTruths. -/
import Derived.Test.YtigafjdacllohaaDoorLes
import Derived.Test.YtigafjdacllohaaDoorRlg
import Derived.Test.YtigafjdacllohaaDoorAwk
namespace Go.Proofs.YtigafjdacllohaaDoor
open Go.RowKit
set_option linter.unusedVariables false
set_option linter.unusedSimpArgs false
set_option maxRecDepth 100000
set_option maxHeartbeats 8000000 in
theorem truths_walk (op : Int) (A B : Vl) (m : Int) (w : World) (hm : w.cell? ⟨1, 0, none⟩ = some (.int .i64 m)) :
    Calls Tryd.prog 6 #[.int .i64 op, valOf A, valOf B] w fun e w' => e = .returned (.bool true) ∧ Below w.heap.size w w' := by
  unfold valOf
  have HB0 : Hid (Below w.heap.size w ((w.alloc (.cells #[.int .i64 A.ty, .int .i64 A.n, .string (strOf A.t), .bool A.b] 23)).alloc (.cells #[.int .i64 B.ty, .int .i64 B.n, .string (strOf B.t), .bool B.b] 23))) := below2 _ _ _
  have HT0 : Hid (TwoAB w.heap.size A B ((w.alloc (.cells #[.int .i64 A.ty, .int .i64 A.n, .string (strOf A.t), .bool A.b] 23)).alloc (.cells #[.int .i64 B.ty, .int .i64 B.n, .string (strOf B.t), .bool B.b] 23))) := ⟨first2 _ _ _, new2 _ _ _⟩
  obtain ⟨W1, hW1⟩ : ∃ W1, (w.alloc (.cells #[.int .i64 A.ty, .int .i64 A.n, .string (strOf A.t), .bool A.b] 23)).alloc (.cells #[.int .i64 B.ty, .int .i64 B.n, .string (strOf B.t), .bool B.b] 23) = W1 := ⟨_, rfl⟩
  rw [hW1] at HB0 HT0
  have H12 : Hid (∀ W, Calls Tryd.prog 12 #[.int .i64 op, .agg #[.int .i64 A.ty, .int .i64 A.n, .string (strOf A.t), .bool A.b], .agg #[.int .i64 B.ty, .int .i64 B.n, .string (strOf B.t), .bool B.b]] W fun e w' => e = .returned (telling (lessP op A B).1 (lessP op A B).2) ∧ Below W.heap.size W w') := less_any op A B
  have H21 : Hid (∀ W, Calls Tryd.prog 21 #[.int .i64 op, .agg #[.int .i64 A.ty, .int .i64 A.n, .string (strOf A.t), .bool A.b], .agg #[.int .i64 B.ty, .int .i64 B.n, .string (strOf B.t), .bool B.b]] W fun e w' => e = .returned (telling (lessP op A B).1 (lessP op A B).2) ∧ Below W.heap.size W w') := rless_any op A B
  have H22 : Hid (∀ W, Calls Tryd.prog 22 #[.agg #[.int .i64 A.ty, .int .i64 A.n, .string (strOf A.t), .bool A.b], .agg #[.int .i64 B.ty, .int .i64 B.n, .string (strOf B.t), .bool B.b]] W fun e w' => e = .returned (telling (andP A B).1 (andP A B).2) ∧ Below W.heap.size W w') := and_any A B
  have H23 : Hid (∀ W, Calls Tryd.prog 23 #[.agg #[.int .i64 A.ty, .int .i64 A.n, .string (strOf A.t), .bool A.b], .agg #[.int .i64 B.ty, .int .i64 B.n, .string (strOf B.t), .bool B.b]] W fun e w' => e = .returned (telling (andP A B).1 (andP A B).2) ∧ Below W.heap.size W w') := rand_any A B
  have H24 : Hid (∀ W, Calls Tryd.prog 24 #[.agg #[.int .i64 A.ty, .int .i64 A.n, .string (strOf A.t), .bool A.b], .agg #[.int .i64 B.ty, .int .i64 B.n, .string (strOf B.t), .bool B.b]] W fun e w' => e = .returned (telling (orP A B).1 (orP A B).2) ∧ Below W.heap.size W w') := or_any A B
  have H25 : Hid (∀ W, Calls Tryd.prog 25 #[.agg #[.int .i64 A.ty, .int .i64 A.n, .string (strOf A.t), .bool A.b], .agg #[.int .i64 B.ty, .int .i64 B.n, .string (strOf B.t), .bool B.b]] W fun e w' => e = .returned (telling (orP A B).1 (orP A B).2) ∧ Below W.heap.size W w') := ror_any A B
  have H26 : Hid (∀ W, Calls Tryd.prog 26 #[.agg #[.int .i64 A.ty, .int .i64 A.n, .string (strOf A.t), .bool A.b]] W fun e w' => e = .returned (telling (notP A).1 (notP A).2) ∧ Below W.heap.size W w') := not_any A
  have H27 : Hid (∀ W, Calls Tryd.prog 27 #[.agg #[.int .i64 A.ty, .int .i64 A.n, .string (strOf A.t), .bool A.b]] W fun e w' => e = .returned (telling (notP A).1 (notP A).2) ∧ Below W.heap.size W w') := rnot_any A
  generalize (lessP op A B).1 = VL at *
  generalize (lessP op A B).2 = eL at *
  generalize (andP A B).1 = VN at *
  generalize (andP A B).2 = eN at *
  generalize (orP A B).1 = VO at *
  generalize (orP A B).2 = eO at *
  generalize (notP A).1 = VT at *
  generalize (notP A).2 = eT at *
  unfold telling at *
  have HAW : Hid (∀ W, Below w.heap.size w W → Calls Tryd.prog 14 #[] W fun e w' => e = .returned (.bool true) ∧ Below W.heap.size W w') := fun W hW => awake_any m W ((hW.cell (p := ⟨1, 0, none⟩) (World.block_lt_of_cell? w _ hm)).trans hm)
  clear hm
  go_enter Tryd.func6, Tryd.ntmps6
  go_upto_region 1 with fail
  try rw [hW1]
  clear hW1
  generalize hq : w.heap.size = q at HT0 ⊢
  have HQ := hide hq
  clear hq
  obtain ⟨a0, a1, a2, a3⟩ := HT0.out.a.cells
  obtain ⟨b0, b1, b2, b3⟩ := HT0.out.b.cells
  go_upto_region 9 with (first
    | (go_at_call 12; refine (H12.out _).mono ?_; rintro e W2 ⟨rfl, hb2⟩; have HB2 := hide hb2; clear hb2; have HT2 := hide (HT0.out.belowW HB2.out); obtain ⟨c20, c21, c22, c23⟩ := HT2.out.a.cells; obtain ⟨d20, d21, d22, d23⟩ := HT2.out.b.cells; have l2 := lt_of_heap HT2.out.a; have m2 := lt_of_heap HT2.out.b)
    | (go_at_call 21; refine (H21.out _).mono ?_; rintro e W3 ⟨rfl, hb3⟩; have HB3 := hide hb3; clear hb3; have HT3 := hide ((HT2.out.belowW ((Below.refl _ _).alloc (Nat.le_refl _) _)).belowW HB3.out); obtain ⟨c30, c31, c32, c33⟩ := HT3.out.a.cells; obtain ⟨d30, d31, d32, d33⟩ := HT3.out.b.cells; have l3 := lt_of_heap HT3.out.a; have m3 := lt_of_heap HT3.out.b)
    | (go_at_call 22; refine (H22.out _).mono ?_; rintro e W4 ⟨rfl, hb4⟩; have HB4 := hide hb4; clear hb4; have HT4 := hide ((HT3.out.belowW ((Below.refl _ _).alloc (Nat.le_refl _) _)).belowW HB4.out); obtain ⟨c40, c41, c42, c43⟩ := HT4.out.a.cells; obtain ⟨d40, d41, d42, d43⟩ := HT4.out.b.cells; have l4 := lt_of_heap HT4.out.a; have m4 := lt_of_heap HT4.out.b)
    | (go_at_call 23; refine (H23.out _).mono ?_; rintro e W5 ⟨rfl, hb5⟩; have HB5 := hide hb5; clear hb5; have HT5 := hide ((HT4.out.belowW ((Below.refl _ _).alloc (Nat.le_refl _) _)).belowW HB5.out); obtain ⟨c50, c51, c52, c53⟩ := HT5.out.a.cells; obtain ⟨d50, d51, d52, d53⟩ := HT5.out.b.cells; have l5 := lt_of_heap HT5.out.a; have m5 := lt_of_heap HT5.out.b)
    | (go_at_call 24; refine (H24.out _).mono ?_; rintro e W6 ⟨rfl, hb6⟩; have HB6 := hide hb6; clear hb6; have HT6 := hide ((HT5.out.belowW ((Below.refl _ _).alloc (Nat.le_refl _) _)).belowW HB6.out); obtain ⟨c60, c61, c62, c63⟩ := HT6.out.a.cells; obtain ⟨d60, d61, d62, d63⟩ := HT6.out.b.cells; have l6 := lt_of_heap HT6.out.a; have m6 := lt_of_heap HT6.out.b)
    | (go_at_call 25; refine (H25.out _).mono ?_; rintro e W7 ⟨rfl, hb7⟩; have HB7 := hide hb7; clear hb7; have HT7 := hide ((HT6.out.belowW ((Below.refl _ _).alloc (Nat.le_refl _) _)).belowW HB7.out); obtain ⟨c70, c71, c72, c73⟩ := HT7.out.a.cells; obtain ⟨d70, d71, d72, d73⟩ := HT7.out.b.cells; have l7 := lt_of_heap HT7.out.a; have m7 := lt_of_heap HT7.out.b)
    | (go_at_call 26; refine (H26.out _).mono ?_; rintro e W8 ⟨rfl, hb8⟩; have HB8 := hide hb8; clear hb8; have HT8 := hide ((HT7.out.belowW ((Below.refl _ _).alloc (Nat.le_refl _) _)).belowW HB8.out); obtain ⟨c80, c81, c82, c83⟩ := HT8.out.a.cells; obtain ⟨d80, d81, d82, d83⟩ := HT8.out.b.cells; have l8 := lt_of_heap HT8.out.a; have m8 := lt_of_heap HT8.out.b)
    | (go_at_call 27; refine (H27.out _).mono ?_; rintro e W9 ⟨rfl, hb9⟩; have HB9 := hide hb9; clear hb9; have HT9 := hide ((HT8.out.belowW ((Below.refl _ _).alloc (Nat.le_refl _) _)).belowW HB9.out)))
  have HF := hide (allocW (thenW (allocW (thenW (allocW (thenW (allocW (thenW (allocW (thenW (allocW (thenW (allocW (thenW (allocW (thenW HB0.out HB2.out) (.cells #[.int .i64 VL.ty, .int .i64 VL.n, .string (strOf VL.t), .bool VL.b] 23)) HB3.out) (.cells #[.int .i64 VL.ty, .int .i64 VL.n, .string (strOf VL.t), .bool VL.b] 23)) HB4.out) (.cells #[.int .i64 VN.ty, .int .i64 VN.n, .string (strOf VN.t), .bool VN.b] 23)) HB5.out) (.cells #[.int .i64 VN.ty, .int .i64 VN.n, .string (strOf VN.t), .bool VN.b] 23)) HB6.out) (.cells #[.int .i64 VO.ty, .int .i64 VO.n, .string (strOf VO.t), .bool VO.b] 23)) HB7.out) (.cells #[.int .i64 VO.ty, .int .i64 VO.n, .string (strOf VO.t), .bool VO.b] 23)) HB8.out) (.cells #[.int .i64 VT.ty, .int .i64 VT.n, .string (strOf VT.t), .bool VT.b] 23)) HB9.out) (.cells #[.int .i64 VT.ty, .int .i64 VT.n, .string (strOf VT.t), .bool VT.b] 23))
  have hP2 : Box (W2.alloc (.cells #[.int .i64 VL.ty, .int .i64 VL.n, .string (strOf VL.t), .bool VL.b] 23)) W2.heap.size VL := heap_alloc_new _ _
  have G2 : Box (W9.alloc (.cells #[.int .i64 VT.ty, .int .i64 VT.n, .string (strOf VT.t), .bool VT.b] 23)) W2.heap.size VL := ((((((((((((((hP2.belowW HB3.out).belowW ((Below.refl _ _).alloc (Nat.le_refl _) (.cells #[.int .i64 VL.ty, .int .i64 VL.n, .string (strOf VL.t), .bool VL.b] 23))).belowW HB4.out).belowW ((Below.refl _ _).alloc (Nat.le_refl _) (.cells #[.int .i64 VN.ty, .int .i64 VN.n, .string (strOf VN.t), .bool VN.b] 23))).belowW HB5.out).belowW ((Below.refl _ _).alloc (Nat.le_refl _) (.cells #[.int .i64 VN.ty, .int .i64 VN.n, .string (strOf VN.t), .bool VN.b] 23))).belowW HB6.out).belowW ((Below.refl _ _).alloc (Nat.le_refl _) (.cells #[.int .i64 VO.ty, .int .i64 VO.n, .string (strOf VO.t), .bool VO.b] 23))).belowW HB7.out).belowW ((Below.refl _ _).alloc (Nat.le_refl _) (.cells #[.int .i64 VO.ty, .int .i64 VO.n, .string (strOf VO.t), .bool VO.b] 23))).belowW HB8.out).belowW ((Below.refl _ _).alloc (Nat.le_refl _) (.cells #[.int .i64 VT.ty, .int .i64 VT.n, .string (strOf VT.t), .bool VT.b] 23))).belowW HB9.out).belowW ((Below.refl _ _).alloc (Nat.le_refl _) (.cells #[.int .i64 VT.ty, .int .i64 VT.n, .string (strOf VT.t), .bool VT.b] 23)))
  have hP3 : Box (W3.alloc (.cells #[.int .i64 VL.ty, .int .i64 VL.n, .string (strOf VL.t), .bool VL.b] 23)) W3.heap.size VL := heap_alloc_new _ _
  have G3 : Box (W9.alloc (.cells #[.int .i64 VT.ty, .int .i64 VT.n, .string (strOf VT.t), .bool VT.b] 23)) W3.heap.size VL := ((((((((((((hP3.belowW HB4.out).belowW ((Below.refl _ _).alloc (Nat.le_refl _) (.cells #[.int .i64 VN.ty, .int .i64 VN.n, .string (strOf VN.t), .bool VN.b] 23))).belowW HB5.out).belowW ((Below.refl _ _).alloc (Nat.le_refl _) (.cells #[.int .i64 VN.ty, .int .i64 VN.n, .string (strOf VN.t), .bool VN.b] 23))).belowW HB6.out).belowW ((Below.refl _ _).alloc (Nat.le_refl _) (.cells #[.int .i64 VO.ty, .int .i64 VO.n, .string (strOf VO.t), .bool VO.b] 23))).belowW HB7.out).belowW ((Below.refl _ _).alloc (Nat.le_refl _) (.cells #[.int .i64 VO.ty, .int .i64 VO.n, .string (strOf VO.t), .bool VO.b] 23))).belowW HB8.out).belowW ((Below.refl _ _).alloc (Nat.le_refl _) (.cells #[.int .i64 VT.ty, .int .i64 VT.n, .string (strOf VT.t), .bool VT.b] 23))).belowW HB9.out).belowW ((Below.refl _ _).alloc (Nat.le_refl _) (.cells #[.int .i64 VT.ty, .int .i64 VT.n, .string (strOf VT.t), .bool VT.b] 23)))
  have hP4 : Box (W4.alloc (.cells #[.int .i64 VN.ty, .int .i64 VN.n, .string (strOf VN.t), .bool VN.b] 23)) W4.heap.size VN := heap_alloc_new _ _
  have G4 : Box (W9.alloc (.cells #[.int .i64 VT.ty, .int .i64 VT.n, .string (strOf VT.t), .bool VT.b] 23)) W4.heap.size VN := ((((((((((hP4.belowW HB5.out).belowW ((Below.refl _ _).alloc (Nat.le_refl _) (.cells #[.int .i64 VN.ty, .int .i64 VN.n, .string (strOf VN.t), .bool VN.b] 23))).belowW HB6.out).belowW ((Below.refl _ _).alloc (Nat.le_refl _) (.cells #[.int .i64 VO.ty, .int .i64 VO.n, .string (strOf VO.t), .bool VO.b] 23))).belowW HB7.out).belowW ((Below.refl _ _).alloc (Nat.le_refl _) (.cells #[.int .i64 VO.ty, .int .i64 VO.n, .string (strOf VO.t), .bool VO.b] 23))).belowW HB8.out).belowW ((Below.refl _ _).alloc (Nat.le_refl _) (.cells #[.int .i64 VT.ty, .int .i64 VT.n, .string (strOf VT.t), .bool VT.b] 23))).belowW HB9.out).belowW ((Below.refl _ _).alloc (Nat.le_refl _) (.cells #[.int .i64 VT.ty, .int .i64 VT.n, .string (strOf VT.t), .bool VT.b] 23)))
  have hP5 : Box (W5.alloc (.cells #[.int .i64 VN.ty, .int .i64 VN.n, .string (strOf VN.t), .bool VN.b] 23)) W5.heap.size VN := heap_alloc_new _ _
  have G5 : Box (W9.alloc (.cells #[.int .i64 VT.ty, .int .i64 VT.n, .string (strOf VT.t), .bool VT.b] 23)) W5.heap.size VN := ((((((((hP5.belowW HB6.out).belowW ((Below.refl _ _).alloc (Nat.le_refl _) (.cells #[.int .i64 VO.ty, .int .i64 VO.n, .string (strOf VO.t), .bool VO.b] 23))).belowW HB7.out).belowW ((Below.refl _ _).alloc (Nat.le_refl _) (.cells #[.int .i64 VO.ty, .int .i64 VO.n, .string (strOf VO.t), .bool VO.b] 23))).belowW HB8.out).belowW ((Below.refl _ _).alloc (Nat.le_refl _) (.cells #[.int .i64 VT.ty, .int .i64 VT.n, .string (strOf VT.t), .bool VT.b] 23))).belowW HB9.out).belowW ((Below.refl _ _).alloc (Nat.le_refl _) (.cells #[.int .i64 VT.ty, .int .i64 VT.n, .string (strOf VT.t), .bool VT.b] 23)))
  have hP6 : Box (W6.alloc (.cells #[.int .i64 VO.ty, .int .i64 VO.n, .string (strOf VO.t), .bool VO.b] 23)) W6.heap.size VO := heap_alloc_new _ _
  have G6 : Box (W9.alloc (.cells #[.int .i64 VT.ty, .int .i64 VT.n, .string (strOf VT.t), .bool VT.b] 23)) W6.heap.size VO := ((((((hP6.belowW HB7.out).belowW ((Below.refl _ _).alloc (Nat.le_refl _) (.cells #[.int .i64 VO.ty, .int .i64 VO.n, .string (strOf VO.t), .bool VO.b] 23))).belowW HB8.out).belowW ((Below.refl _ _).alloc (Nat.le_refl _) (.cells #[.int .i64 VT.ty, .int .i64 VT.n, .string (strOf VT.t), .bool VT.b] 23))).belowW HB9.out).belowW ((Below.refl _ _).alloc (Nat.le_refl _) (.cells #[.int .i64 VT.ty, .int .i64 VT.n, .string (strOf VT.t), .bool VT.b] 23)))
  have hP7 : Box (W7.alloc (.cells #[.int .i64 VO.ty, .int .i64 VO.n, .string (strOf VO.t), .bool VO.b] 23)) W7.heap.size VO := heap_alloc_new _ _
  have G7 : Box (W9.alloc (.cells #[.int .i64 VT.ty, .int .i64 VT.n, .string (strOf VT.t), .bool VT.b] 23)) W7.heap.size VO := ((((hP7.belowW HB8.out).belowW ((Below.refl _ _).alloc (Nat.le_refl _) (.cells #[.int .i64 VT.ty, .int .i64 VT.n, .string (strOf VT.t), .bool VT.b] 23))).belowW HB9.out).belowW ((Below.refl _ _).alloc (Nat.le_refl _) (.cells #[.int .i64 VT.ty, .int .i64 VT.n, .string (strOf VT.t), .bool VT.b] 23)))
  have hP8 : Box (W8.alloc (.cells #[.int .i64 VT.ty, .int .i64 VT.n, .string (strOf VT.t), .bool VT.b] 23)) W8.heap.size VT := heap_alloc_new _ _
  have G8 : Box (W9.alloc (.cells #[.int .i64 VT.ty, .int .i64 VT.n, .string (strOf VT.t), .bool VT.b] 23)) W8.heap.size VT := ((hP8.belowW HB9.out).belowW ((Below.refl _ _).alloc (Nat.le_refl _) (.cells #[.int .i64 VT.ty, .int .i64 VT.n, .string (strOf VT.t), .bool VT.b] 23)))
  have hP9 : Box (W9.alloc (.cells #[.int .i64 VT.ty, .int .i64 VT.n, .string (strOf VT.t), .bool VT.b] 23)) W9.heap.size VT := heap_alloc_new _ _
  have G9 : Box (W9.alloc (.cells #[.int .i64 VT.ty, .int .i64 VT.n, .string (strOf VT.t), .bool VT.b] 23)) W9.heap.size VT := hP9
  clear hP2 hP3 hP4 hP5 hP6 hP7 hP8 hP9 HB2 HB3 HB4 HB5 HB6 HB7 HB8 HB9 HT2 HT3 HT4 HT5 HT6 HT7 HT8 HT9 HB0 HT0 a0 a1 a2 a3 b0 b1 b2 b3 c20 c21 c22 c23 d20 d21 d22 d23 l2 m2 c30 c31 c32 c33 d30 d31 d32 d33 l3 m3 c40 c41 c42 c43 d40 d41 d42 d43 l4 m4 c50 c51 c52 c53 d50 d51 d52 d53 l5 m5 c60 c61 c62 c63 d60 d61 d62 d63 l6 m6 c70 c71 c72 c73 d70 d71 d72 d73 l7 m7 c80 c81 c82 c83 d80 d81 d82 d83 l8 m8
  generalize W9.alloc (.cells #[.int .i64 VT.ty, .int .i64 VT.n, .string (strOf VT.t), .bool VT.b] 23) = Wf at *
  generalize W2.heap.size = p2 at *
  generalize W3.heap.size = p3 at *
  generalize W4.heap.size = p4 at *
  generalize W5.heap.size = p5 at *
  generalize W6.heap.size = p6 at *
  generalize W7.heap.size = p7 at *
  generalize W8.heap.size = p8 at *
  generalize W9.heap.size = p9 at *
  obtain ⟨g20, g21, g22, g23⟩ := G2.cells
  obtain ⟨g30, g31, g32, g33⟩ := G3.cells
  obtain ⟨g40, g41, g42, g43⟩ := G4.cells
  obtain ⟨g50, g51, g52, g53⟩ := G5.cells
  obtain ⟨g60, g61, g62, g63⟩ := G6.cells
  obtain ⟨g70, g71, g72, g73⟩ := G7.cells
  obtain ⟨g80, g81, g82, g83⟩ := G8.cells
  obtain ⟨g90, g91, g92, g93⟩ := G9.cells
  clear G2 G3 G4 G5 G6 G7 G8 G9 H12 H21 H22 H23 H24 H25 H26 H27
  have qVL := fun w => run_eql23 w VL VL true (by simp)
  have rVL := fun w => eq23 w VL VL true (by simp)
  have qVN := fun w => run_eql23 w VN VN true (by simp)
  have rVN := fun w => eq23 w VN VN true (by simp)
  have qVO := fun w => run_eql23 w VO VO true (by simp)
  have rVO := fun w => eq23 w VO VO true (by simp)
  have qVT := fun w => run_eql23 w VT VT true (by simp)
  have rVT := fun w => eq23 w VT VT true (by simp)
  go_wp2_with (go_at_call 14; refine (HAW.out _ HF.out).mono ?_; rintro e w9 ⟨rfl, hb9⟩; have HB9 := hide hb9; clear hb9)
  go_ret
  exact ⟨rfl, thenW HF.out HB9.out⟩
end Go.Proofs.YtigafjdacllohaaDoor
