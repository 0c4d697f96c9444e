/- The document's And, Or, Not. -/
import Derived.Test.YtigafjdacllohaaDoorLog
namespace Go.Proofs.YtigafjdacllohaaDoor
open Go.RowKit
set_option linter.unusedVariables false
set_option linter.unusedSimpArgs false
set_option maxRecDepth 100000

def eitP (A B : Vl) (s : Bool) : Vl × Int := if (isV A 3 && isV B 3) = true then (if ((A.ty == 3 && A.b == s) || (B.ty == 3 && B.b == s)) = true then (bV s, 0) else if (A.ty == 0 || B.ty == 0) = true then (Vl.zero, 0) else (bV (!s), 0)) else (Vl.zero, 160)
theorem eit_and (A B : Vl) : eitP A B false = andP A B := by
  unfold eitP andP isV lvl
  simp only [knownE]
  by_cases h1 : A.ty = 0 <;> by_cases h2 : B.ty = 0 <;> by_cases h3 : A.ty = 3 <;> by_cases h4 : B.ty = 3 <;> cases hA : A.b <;> cases hB : B.b <;> simp_all <;> rfl
theorem eit_or (A B : Vl) : eitP A B true = orP A B := by
  unfold eitP orP isV lvl
  simp only [knownE]
  by_cases h1 : A.ty = 0 <;> by_cases h2 : B.ty = 0 <;> by_cases h3 : A.ty = 3 <;> by_cases h4 : B.ty = 3 <;> cases hA : A.b <;> cases hB : B.b <;> simp_all <;> rfl
theorem not_is (A : Vl) : notP A = if isV A 3 = true then (if (A.ty == 0) = true then (Vl.zero, 0) else (bV (!A.b), 0)) else (Vl.zero, 160) := by
  unfold notP isV lvl
  simp only [knownE]
  by_cases h1 : A.ty = 0 <;> by_cases h3 : A.ty = 3 <;> cases hA : A.b <;> simp_all <;> rfl
set_option maxHeartbeats 8000000 in
theorem either_any (A B : Vl) (s : Bool) (w : World) : Calls Tryd.prog 56 #[valOf A, valOf B, .bool s] w fun e w' => e = .returned (telling (eitP A B s).1 (eitP A B s).2) ∧ Below w.heap.size w w' := by
  obtain ⟨W1, hW1⟩ : ∃ W1, ((w.alloc (.cells #[.int .i64 A.ty, .int .i64 A.n, .string (strOf A.t), .bool A.b] 23)).alloc (.cells #[.int .i64 B.ty, .int .i64 B.n, .string (strOf B.t), .bool B.b] 23)).alloc (.cells #[.int .i64 0, .int .i64 0, .string { data := #[] }, .bool false] 23) = W1 := ⟨_, rfl⟩
  have HB1 : Hid (Below w.heap.size w W1) := by rw [← hW1]; exact below3 _ _ _ _
  have HT1 : Hid (Two w.heap.size A B W1) := by rw [← hW1]; exact two_new w A B
  have HNL : Hid (∀ W, Calls Tryd.prog 47 #[] W fun e w' => e = .returned (.agg #[.int .i64 0, .int .i64 0, .string { data := #[] }, .bool false]) ∧ Below W.heap.size W w') := refNull_any
  have HIA : Hid (∀ W, Calls Tryd.prog 48 #[.agg #[.int .i64 A.ty, .int .i64 A.n, .string (strOf A.t), .bool A.b], .int .i64 3] W fun e w' => e = .returned (.bool (isV A 3)) ∧ Below W.heap.size W w') := is_any A 3
  have HIB : Hid (∀ W, Calls Tryd.prog 48 #[.agg #[.int .i64 B.ty, .int .i64 B.n, .string (strOf B.t), .bool B.b], .int .i64 3] W fun e w' => e = .returned (.bool (isV B 3)) ∧ Below W.heap.size W w') := is_any B 3
  have HTR : Hid (∀ b W, Calls Tryd.prog 53 #[.bool b] W fun e w' => e = .returned (.agg #[.int .i64 3, .int .i64 0, .string { data := #[] }, .bool b]) ∧ Below W.heap.size W w') := refTruth_any
  have HM : Hid (eitP A B s = if (isV A 3 && isV B 3) = true then (if ((A.ty == 3 && A.b == s) || (B.ty == 3 && B.b == s)) = true then (bV s, 0) else if (A.ty == 0 || B.ty == 0) = true then (Vl.zero, 0) else (bV (!s), 0)) else (Vl.zero, 160)) := rfl
  have HZ1 : Hid (isV A 3 = true → (A.ty == 3) = false → (A.ty == 0) = true) := fun h1 h2 => by
    have := of_decide_eq_true h1
    have h3 : A.ty ≠ 3 := beq_eq_false_iff_ne.1 h2
    exact beq_iff_eq.2 (by omega)
  have HZ2 : Hid (isV B 3 = true → (B.ty == 3) = false → (B.ty == 0) = true) := fun h1 h2 => by
    have := of_decide_eq_true h1
    have h3 : B.ty ≠ 3 := beq_eq_false_iff_ne.1 h2
    exact beq_iff_eq.2 (by omega)
  generalize eitP A B s = mp at *
  generalize isV A 3 = b1 at *
  generalize isV B 3 = b2 at *
  obtain ⟨t1, ht1⟩ : ∃ x, (A.ty == 3) = x := ⟨_, rfl⟩
  obtain ⟨t2, ht2⟩ : ∃ x, (B.ty == 3) = x := ⟨_, rfl⟩
  obtain ⟨z1, hz1⟩ : ∃ x, (A.ty == 0) = x := ⟨_, rfl⟩
  obtain ⟨z2, hz2⟩ : ∃ x, (B.ty == 0) = x := ⟨_, rfl⟩
  rw [ht1, ht2, hz1, hz2] at HM
  unfold valOf
  cases b1
  · have HE : Hid (mp = (Vl.zero, 160)) := HM.out
    clear HM
    go_enter Tryd.func56, Tryd.ntmps56
    go_upto_region 1 with fail
    try rw [hW1]
    clear hW1
    generalize hq : w.heap.size = q at HT1 ⊢
    have HQ := hide hq
    clear hq
    obtain ⟨a0, a1, a2, a3⟩ := HT1.out.a.cells
    obtain ⟨b0', b1', b2', b3'⟩ := HT1.out.b.cells
    go_wp2_with (first
      | (go_at_call 47; refine (HNL.out _).mono ?_; rintro e W3 ⟨rfl, hb3⟩; have HB3 := hide hb3; clear hb3; have HT3 := hide (HT2.out.belowW HB3.out))
      | (go_at_call 48; refine (HIA.out _).mono ?_; rintro e W2 ⟨rfl, hb2⟩; have HB2 := hide hb2; clear hb2; have HT2 := hide (HT1.out.belowW HB2.out); obtain ⟨c0, c1, c2, c3⟩ := HT2.out.b.cells)
      | (refine wpList_store_val rfl (.tmp 6) (.tmp 17) rfl rfl (q + 2) Vl.zero Vl.zero rfl rfl HT3.out.r ?_))
    refine bodyPost_ret (v := telling Vl.zero 160) (results_ct Tryd.results56 _ _ (q + 2) 23 _ (0, 0) _ rfl (Box.after HT3.out.r Vl.zero) Tryd.underlying23 rfl Tryd.size23) rfl ?_
    rw [HE.out]
    exact ⟨rfl, below_setRow (thenW (thenW (HB1.out) HB2.out) HB3.out) (by rw [HQ.out]; omega) _⟩
  cases b2
  · have HE : Hid (mp = (Vl.zero, 160)) := HM.out
    clear HM
    go_enter Tryd.func56, Tryd.ntmps56
    go_upto_region 1 with fail
    try rw [hW1]
    clear hW1
    generalize hq : w.heap.size = q at HT1 ⊢
    have HQ := hide hq
    clear hq
    obtain ⟨a0, a1, a2, a3⟩ := HT1.out.a.cells
    obtain ⟨b0', b1', b2', b3'⟩ := HT1.out.b.cells
    go_wp2_with (first
      | (go_at_call 47; refine (HNL.out _).mono ?_; rintro e W4 ⟨rfl, hb4⟩; have HB4 := hide hb4; clear hb4; have HT4 := hide (HT3.out.belowW HB4.out))
      | (have _t := HB2; go_at_call 48; refine (HIB.out _).mono ?_; rintro e W3 ⟨rfl, hb3⟩; have HB3 := hide hb3; clear hb3; have HT3 := hide (HT2.out.belowW HB3.out); obtain ⟨d0, d1, d2, d3⟩ := HT3.out.a.cells; obtain ⟨f0, f1, f2, f3⟩ := HT3.out.b.cells; (try rw [HAb.out] at d3); (try rw [HBb.out] at f3))
      | (go_at_call 48; refine (HIA.out _).mono ?_; rintro e W2 ⟨rfl, hb2⟩; have HB2 := hide hb2; clear hb2; have HT2 := hide (HT1.out.belowW HB2.out); obtain ⟨c0, c1, c2, c3⟩ := HT2.out.b.cells)
      | (refine wpList_store_val rfl (.tmp 6) (.tmp 17) rfl rfl (q + 2) Vl.zero Vl.zero rfl rfl HT4.out.r ?_))
    refine bodyPost_ret (v := telling Vl.zero 160) (results_ct Tryd.results56 _ _ (q + 2) 23 _ (0, 0) _ rfl (Box.after HT4.out.r Vl.zero) Tryd.underlying23 rfl Tryd.size23) rfl ?_
    rw [HE.out]
    exact ⟨rfl, below_setRow (thenW (thenW (thenW (HB1.out) HB2.out) HB3.out) HB4.out) (by rw [HQ.out]; omega) _⟩
  cases s
  · cases t1
    · have hz : z1 = true := by rw [← hz1]; exact HZ1.out rfl ht1
      subst hz
      cases t2
      · have hz : z2 = true := by rw [← hz2]; exact HZ2.out rfl ht2
        subst hz
        skip
        have HE : Hid (mp = (Vl.zero, 0)) := HM.out
        clear HM
        go_enter Tryd.func56, Tryd.ntmps56
        go_upto_region 1 with fail
        try rw [hW1]
        clear hW1
        generalize hq : w.heap.size = q at HT1 ⊢
        have HQ := hide hq
        clear hq
        obtain ⟨a0, a1, a2, a3⟩ := HT1.out.a.cells
        obtain ⟨b0', b1', b2', b3'⟩ := HT1.out.b.cells
        go_wp2_with (first
          | (go_at_call 47; refine (HNL.out _).mono ?_; rintro e W4 ⟨rfl, hb4⟩; have HB4 := hide hb4; clear hb4; have HT4 := hide (HT3.out.belowW HB4.out))
          | (have _t := HB2; go_at_call 48; refine (HIB.out _).mono ?_; rintro e W3 ⟨rfl, hb3⟩; have HB3 := hide hb3; clear hb3; have HT3 := hide (HT2.out.belowW HB3.out); obtain ⟨d0, d1, d2, d3⟩ := HT3.out.a.cells; obtain ⟨f0, f1, f2, f3⟩ := HT3.out.b.cells; (try rw [HAb.out] at d3); (try rw [HBb.out] at f3))
          | (go_at_call 48; refine (HIA.out _).mono ?_; rintro e W2 ⟨rfl, hb2⟩; have HB2 := hide hb2; clear hb2; have HT2 := hide (HT1.out.belowW HB2.out); obtain ⟨c0, c1, c2, c3⟩ := HT2.out.b.cells)
          | (refine wpList_store_val rfl (.tmp 6) (.tmp 50) rfl rfl (q + 2) Vl.zero Vl.zero rfl rfl HT4.out.r ?_))
        refine bodyPost_ret (v := telling Vl.zero 0) (results_ct Tryd.results56 _ _ (q + 2) 23 _ (0, 0) _ rfl (Box.after HT4.out.r Vl.zero) Tryd.underlying23 rfl Tryd.size23) rfl ?_
        rw [HE.out]
        exact ⟨rfl, below_setRow (thenW (thenW (thenW (HB1.out) HB2.out) HB3.out) HB4.out) (by rw [HQ.out]; omega) _⟩
      · have hz : z2 = false := by rw [← hz2]; exact beq_eq_false_iff_ne.2 (fun h => by rw [h] at ht2; cases ht2)
        subst hz
        rcases (show B.b = false ∨ B.b = true by cases B.b <;> simp) with hBb | hBb
        · rw [hBb] at HM
          have HBb := hide hBb
          clear hBb
          have HE : Hid (mp = (bV false, 0)) := HM.out
          clear HM
          go_enter Tryd.func56, Tryd.ntmps56
          go_upto_region 1 with fail
          try rw [hW1]
          clear hW1
          generalize hq : w.heap.size = q at HT1 ⊢
          have HQ := hide hq
          clear hq
          obtain ⟨a0, a1, a2, a3⟩ := HT1.out.a.cells
          obtain ⟨b0', b1', b2', b3'⟩ := HT1.out.b.cells
          go_upto_region 3 with (first
            | (have _t := HB2; go_at_call 48; refine (HIB.out _).mono ?_; rintro e W3 ⟨rfl, hb3⟩; have HB3 := hide hb3; clear hb3; have HT3 := hide (HT2.out.belowW HB3.out); obtain ⟨d0, d1, d2, d3⟩ := HT3.out.a.cells; obtain ⟨f0, f1, f2, f3⟩ := HT3.out.b.cells; (try rw [HAb.out] at d3); (try rw [HBb.out] at f3))
            | (go_at_call 48; refine (HIA.out _).mono ?_; rintro e W2 ⟨rfl, hb2⟩; have HB2 := hide hb2; clear hb2; have HT2 := hide (HT1.out.belowW HB2.out); obtain ⟨c0, c1, c2, c3⟩ := HT2.out.b.cells))
          go_upto_region 4 with fail
          go_wp2_with (first
            | (go_at_call 53; refine (HTR.out _ _).mono ?_; rintro e W4 ⟨rfl, hb4⟩; have HB4 := hide hb4; clear hb4; have HT4 := hide (HT3.out.belowW HB4.out))
            | (refine wpList_store_val rfl (.tmp 6) (.tmp 40) rfl rfl (q + 2) Vl.zero (bV false) rfl rfl HT4.out.r ?_))
          refine bodyPost_ret (v := telling (bV false) 0) (results_ct Tryd.results56 _ _ (q + 2) 23 _ (0, 0) _ rfl (Box.after HT4.out.r (bV false)) Tryd.underlying23 rfl Tryd.size23) rfl ?_
          rw [HE.out]
          exact ⟨rfl, below_setRow (thenW (thenW (thenW (HB1.out) HB2.out) HB3.out) HB4.out) (by rw [HQ.out]; omega) _⟩
        · rw [hBb] at HM
          have HBb := hide hBb
          clear hBb
          skip
          have HE : Hid (mp = (Vl.zero, 0)) := HM.out
          clear HM
          go_enter Tryd.func56, Tryd.ntmps56
          go_upto_region 1 with fail
          try rw [hW1]
          clear hW1
          generalize hq : w.heap.size = q at HT1 ⊢
          have HQ := hide hq
          clear hq
          obtain ⟨a0, a1, a2, a3⟩ := HT1.out.a.cells
          obtain ⟨b0', b1', b2', b3'⟩ := HT1.out.b.cells
          go_wp2_with (first
            | (go_at_call 47; refine (HNL.out _).mono ?_; rintro e W4 ⟨rfl, hb4⟩; have HB4 := hide hb4; clear hb4; have HT4 := hide (HT3.out.belowW HB4.out))
            | (have _t := HB2; go_at_call 48; refine (HIB.out _).mono ?_; rintro e W3 ⟨rfl, hb3⟩; have HB3 := hide hb3; clear hb3; have HT3 := hide (HT2.out.belowW HB3.out); obtain ⟨d0, d1, d2, d3⟩ := HT3.out.a.cells; obtain ⟨f0, f1, f2, f3⟩ := HT3.out.b.cells; (try rw [HAb.out] at d3); (try rw [HBb.out] at f3))
            | (go_at_call 48; refine (HIA.out _).mono ?_; rintro e W2 ⟨rfl, hb2⟩; have HB2 := hide hb2; clear hb2; have HT2 := hide (HT1.out.belowW HB2.out); obtain ⟨c0, c1, c2, c3⟩ := HT2.out.b.cells)
            | (refine wpList_store_val rfl (.tmp 6) (.tmp 50) rfl rfl (q + 2) Vl.zero Vl.zero rfl rfl HT4.out.r ?_))
          refine bodyPost_ret (v := telling Vl.zero 0) (results_ct Tryd.results56 _ _ (q + 2) 23 _ (0, 0) _ rfl (Box.after HT4.out.r Vl.zero) Tryd.underlying23 rfl Tryd.size23) rfl ?_
          rw [HE.out]
          exact ⟨rfl, below_setRow (thenW (thenW (thenW (HB1.out) HB2.out) HB3.out) HB4.out) (by rw [HQ.out]; omega) _⟩
    · have hz : z1 = false := by rw [← hz1]; exact beq_eq_false_iff_ne.2 (fun h => by rw [h] at ht1; cases ht1)
      subst hz
      rcases (show A.b = false ∨ A.b = true by cases A.b <;> simp) with hAb | hAb
      · rw [hAb] at HM
        have HAb := hide hAb
        clear hAb
        have HE : Hid (mp = (bV false, 0)) := HM.out
        clear HM ht2 hz2 HZ2 t2 z2
        go_enter Tryd.func56, Tryd.ntmps56
        go_upto_region 1 with fail
        try rw [hW1]
        clear hW1
        generalize hq : w.heap.size = q at HT1 ⊢
        have HQ := hide hq
        clear hq
        obtain ⟨a0, a1, a2, a3⟩ := HT1.out.a.cells
        obtain ⟨b0', b1', b2', b3'⟩ := HT1.out.b.cells
        go_upto_region 3 with (first
          | (have _t := HB2; go_at_call 48; refine (HIB.out _).mono ?_; rintro e W3 ⟨rfl, hb3⟩; have HB3 := hide hb3; clear hb3; have HT3 := hide (HT2.out.belowW HB3.out); obtain ⟨d0, d1, d2, d3⟩ := HT3.out.a.cells; obtain ⟨f0, f1, f2, f3⟩ := HT3.out.b.cells; (try rw [HAb.out] at d3); (try rw [HBb.out] at f3))
          | (go_at_call 48; refine (HIA.out _).mono ?_; rintro e W2 ⟨rfl, hb2⟩; have HB2 := hide hb2; clear hb2; have HT2 := hide (HT1.out.belowW HB2.out); obtain ⟨c0, c1, c2, c3⟩ := HT2.out.b.cells))
        go_upto_region 4 with fail
        go_wp2_with (first
          | (go_at_call 53; refine (HTR.out _ _).mono ?_; rintro e W4 ⟨rfl, hb4⟩; have HB4 := hide hb4; clear hb4; have HT4 := hide (HT3.out.belowW HB4.out))
          | (refine wpList_store_val rfl (.tmp 6) (.tmp 40) rfl rfl (q + 2) Vl.zero (bV false) rfl rfl HT4.out.r ?_))
        refine bodyPost_ret (v := telling (bV false) 0) (results_ct Tryd.results56 _ _ (q + 2) 23 _ (0, 0) _ rfl (Box.after HT4.out.r (bV false)) Tryd.underlying23 rfl Tryd.size23) rfl ?_
        rw [HE.out]
        exact ⟨rfl, below_setRow (thenW (thenW (thenW (HB1.out) HB2.out) HB3.out) HB4.out) (by rw [HQ.out]; omega) _⟩
      · rw [hAb] at HM
        have HAb := hide hAb
        clear hAb
        cases t2
        · have hz : z2 = true := by rw [← hz2]; exact HZ2.out rfl ht2
          subst hz
          skip
          have HE : Hid (mp = (Vl.zero, 0)) := HM.out
          clear HM
          go_enter Tryd.func56, Tryd.ntmps56
          go_upto_region 1 with fail
          try rw [hW1]
          clear hW1
          generalize hq : w.heap.size = q at HT1 ⊢
          have HQ := hide hq
          clear hq
          obtain ⟨a0, a1, a2, a3⟩ := HT1.out.a.cells
          obtain ⟨b0', b1', b2', b3'⟩ := HT1.out.b.cells
          go_wp2_with (first
            | (go_at_call 47; refine (HNL.out _).mono ?_; rintro e W4 ⟨rfl, hb4⟩; have HB4 := hide hb4; clear hb4; have HT4 := hide (HT3.out.belowW HB4.out))
            | (have _t := HB2; go_at_call 48; refine (HIB.out _).mono ?_; rintro e W3 ⟨rfl, hb3⟩; have HB3 := hide hb3; clear hb3; have HT3 := hide (HT2.out.belowW HB3.out); obtain ⟨d0, d1, d2, d3⟩ := HT3.out.a.cells; obtain ⟨f0, f1, f2, f3⟩ := HT3.out.b.cells; (try rw [HAb.out] at d3); (try rw [HBb.out] at f3))
            | (go_at_call 48; refine (HIA.out _).mono ?_; rintro e W2 ⟨rfl, hb2⟩; have HB2 := hide hb2; clear hb2; have HT2 := hide (HT1.out.belowW HB2.out); obtain ⟨c0, c1, c2, c3⟩ := HT2.out.b.cells)
            | (refine wpList_store_val rfl (.tmp 6) (.tmp 50) rfl rfl (q + 2) Vl.zero Vl.zero rfl rfl HT4.out.r ?_))
          refine bodyPost_ret (v := telling Vl.zero 0) (results_ct Tryd.results56 _ _ (q + 2) 23 _ (0, 0) _ rfl (Box.after HT4.out.r Vl.zero) Tryd.underlying23 rfl Tryd.size23) rfl ?_
          rw [HE.out]
          exact ⟨rfl, below_setRow (thenW (thenW (thenW (HB1.out) HB2.out) HB3.out) HB4.out) (by rw [HQ.out]; omega) _⟩
        · have hz : z2 = false := by rw [← hz2]; exact beq_eq_false_iff_ne.2 (fun h => by rw [h] at ht2; cases ht2)
          subst hz
          rcases (show B.b = false ∨ B.b = true by cases B.b <;> simp) with hBb | hBb
          · rw [hBb] at HM
            have HBb := hide hBb
            clear hBb
            have HE : Hid (mp = (bV false, 0)) := HM.out
            clear HM
            go_enter Tryd.func56, Tryd.ntmps56
            go_upto_region 1 with fail
            try rw [hW1]
            clear hW1
            generalize hq : w.heap.size = q at HT1 ⊢
            have HQ := hide hq
            clear hq
            obtain ⟨a0, a1, a2, a3⟩ := HT1.out.a.cells
            obtain ⟨b0', b1', b2', b3'⟩ := HT1.out.b.cells
            go_upto_region 3 with (first
              | (have _t := HB2; go_at_call 48; refine (HIB.out _).mono ?_; rintro e W3 ⟨rfl, hb3⟩; have HB3 := hide hb3; clear hb3; have HT3 := hide (HT2.out.belowW HB3.out); obtain ⟨d0, d1, d2, d3⟩ := HT3.out.a.cells; obtain ⟨f0, f1, f2, f3⟩ := HT3.out.b.cells; (try rw [HAb.out] at d3); (try rw [HBb.out] at f3))
              | (go_at_call 48; refine (HIA.out _).mono ?_; rintro e W2 ⟨rfl, hb2⟩; have HB2 := hide hb2; clear hb2; have HT2 := hide (HT1.out.belowW HB2.out); obtain ⟨c0, c1, c2, c3⟩ := HT2.out.b.cells))
            go_upto_region 4 with fail
            go_wp2_with (first
              | (go_at_call 53; refine (HTR.out _ _).mono ?_; rintro e W4 ⟨rfl, hb4⟩; have HB4 := hide hb4; clear hb4; have HT4 := hide (HT3.out.belowW HB4.out))
              | (refine wpList_store_val rfl (.tmp 6) (.tmp 40) rfl rfl (q + 2) Vl.zero (bV false) rfl rfl HT4.out.r ?_))
            refine bodyPost_ret (v := telling (bV false) 0) (results_ct Tryd.results56 _ _ (q + 2) 23 _ (0, 0) _ rfl (Box.after HT4.out.r (bV false)) Tryd.underlying23 rfl Tryd.size23) rfl ?_
            rw [HE.out]
            exact ⟨rfl, below_setRow (thenW (thenW (thenW (HB1.out) HB2.out) HB3.out) HB4.out) (by rw [HQ.out]; omega) _⟩
          · rw [hBb] at HM
            have HBb := hide hBb
            clear hBb
            skip
            have HE : Hid (mp = (bV true, 0)) := HM.out
            clear HM
            go_enter Tryd.func56, Tryd.ntmps56
            go_upto_region 1 with fail
            try rw [hW1]
            clear hW1
            generalize hq : w.heap.size = q at HT1 ⊢
            have HQ := hide hq
            clear hq
            obtain ⟨a0, a1, a2, a3⟩ := HT1.out.a.cells
            obtain ⟨b0', b1', b2', b3'⟩ := HT1.out.b.cells
            go_wp2_with (first
              | (go_at_call 53; refine (HTR.out _ _).mono ?_; rintro e W4 ⟨rfl, hb4⟩; have HB4 := hide hb4; clear hb4; have HT4 := hide (HT3.out.belowW HB4.out))
              | (have _t := HB2; go_at_call 48; refine (HIB.out _).mono ?_; rintro e W3 ⟨rfl, hb3⟩; have HB3 := hide hb3; clear hb3; have HT3 := hide (HT2.out.belowW HB3.out); obtain ⟨d0, d1, d2, d3⟩ := HT3.out.a.cells; obtain ⟨f0, f1, f2, f3⟩ := HT3.out.b.cells; (try rw [HAb.out] at d3); (try rw [HBb.out] at f3))
              | (go_at_call 48; refine (HIA.out _).mono ?_; rintro e W2 ⟨rfl, hb2⟩; have HB2 := hide hb2; clear hb2; have HT2 := hide (HT1.out.belowW HB2.out); obtain ⟨c0, c1, c2, c3⟩ := HT2.out.b.cells)
              | (refine wpList_store_val rfl (.tmp 6) (.tmp 53) rfl rfl (q + 2) Vl.zero (bV true) rfl rfl HT4.out.r ?_))
            refine bodyPost_ret (v := telling (bV true) 0) (results_ct Tryd.results56 _ _ (q + 2) 23 _ (0, 0) _ rfl (Box.after HT4.out.r (bV true)) Tryd.underlying23 rfl Tryd.size23) rfl ?_
            rw [HE.out]
            exact ⟨rfl, below_setRow (thenW (thenW (thenW (HB1.out) HB2.out) HB3.out) HB4.out) (by rw [HQ.out]; omega) _⟩
  · cases t1
    · have hz : z1 = true := by rw [← hz1]; exact HZ1.out rfl ht1
      subst hz
      cases t2
      · have hz : z2 = true := by rw [← hz2]; exact HZ2.out rfl ht2
        subst hz
        skip
        have HE : Hid (mp = (Vl.zero, 0)) := HM.out
        clear HM
        go_enter Tryd.func56, Tryd.ntmps56
        go_upto_region 1 with fail
        try rw [hW1]
        clear hW1
        generalize hq : w.heap.size = q at HT1 ⊢
        have HQ := hide hq
        clear hq
        obtain ⟨a0, a1, a2, a3⟩ := HT1.out.a.cells
        obtain ⟨b0', b1', b2', b3'⟩ := HT1.out.b.cells
        go_wp2_with (first
          | (go_at_call 47; refine (HNL.out _).mono ?_; rintro e W4 ⟨rfl, hb4⟩; have HB4 := hide hb4; clear hb4; have HT4 := hide (HT3.out.belowW HB4.out))
          | (have _t := HB2; go_at_call 48; refine (HIB.out _).mono ?_; rintro e W3 ⟨rfl, hb3⟩; have HB3 := hide hb3; clear hb3; have HT3 := hide (HT2.out.belowW HB3.out); obtain ⟨d0, d1, d2, d3⟩ := HT3.out.a.cells; obtain ⟨f0, f1, f2, f3⟩ := HT3.out.b.cells; (try rw [HAb.out] at d3); (try rw [HBb.out] at f3))
          | (go_at_call 48; refine (HIA.out _).mono ?_; rintro e W2 ⟨rfl, hb2⟩; have HB2 := hide hb2; clear hb2; have HT2 := hide (HT1.out.belowW HB2.out); obtain ⟨c0, c1, c2, c3⟩ := HT2.out.b.cells)
          | (refine wpList_store_val rfl (.tmp 6) (.tmp 50) rfl rfl (q + 2) Vl.zero Vl.zero rfl rfl HT4.out.r ?_))
        refine bodyPost_ret (v := telling Vl.zero 0) (results_ct Tryd.results56 _ _ (q + 2) 23 _ (0, 0) _ rfl (Box.after HT4.out.r Vl.zero) Tryd.underlying23 rfl Tryd.size23) rfl ?_
        rw [HE.out]
        exact ⟨rfl, below_setRow (thenW (thenW (thenW (HB1.out) HB2.out) HB3.out) HB4.out) (by rw [HQ.out]; omega) _⟩
      · have hz : z2 = false := by rw [← hz2]; exact beq_eq_false_iff_ne.2 (fun h => by rw [h] at ht2; cases ht2)
        subst hz
        rcases (show B.b = false ∨ B.b = true by cases B.b <;> simp) with hBb | hBb
        · rw [hBb] at HM
          have HBb := hide hBb
          clear hBb
          skip
          have HE : Hid (mp = (Vl.zero, 0)) := HM.out
          clear HM
          go_enter Tryd.func56, Tryd.ntmps56
          go_upto_region 1 with fail
          try rw [hW1]
          clear hW1
          generalize hq : w.heap.size = q at HT1 ⊢
          have HQ := hide hq
          clear hq
          obtain ⟨a0, a1, a2, a3⟩ := HT1.out.a.cells
          obtain ⟨b0', b1', b2', b3'⟩ := HT1.out.b.cells
          go_wp2_with (first
            | (go_at_call 47; refine (HNL.out _).mono ?_; rintro e W4 ⟨rfl, hb4⟩; have HB4 := hide hb4; clear hb4; have HT4 := hide (HT3.out.belowW HB4.out))
            | (have _t := HB2; go_at_call 48; refine (HIB.out _).mono ?_; rintro e W3 ⟨rfl, hb3⟩; have HB3 := hide hb3; clear hb3; have HT3 := hide (HT2.out.belowW HB3.out); obtain ⟨d0, d1, d2, d3⟩ := HT3.out.a.cells; obtain ⟨f0, f1, f2, f3⟩ := HT3.out.b.cells; (try rw [HAb.out] at d3); (try rw [HBb.out] at f3))
            | (go_at_call 48; refine (HIA.out _).mono ?_; rintro e W2 ⟨rfl, hb2⟩; have HB2 := hide hb2; clear hb2; have HT2 := hide (HT1.out.belowW HB2.out); obtain ⟨c0, c1, c2, c3⟩ := HT2.out.b.cells)
            | (refine wpList_store_val rfl (.tmp 6) (.tmp 50) rfl rfl (q + 2) Vl.zero Vl.zero rfl rfl HT4.out.r ?_))
          refine bodyPost_ret (v := telling Vl.zero 0) (results_ct Tryd.results56 _ _ (q + 2) 23 _ (0, 0) _ rfl (Box.after HT4.out.r Vl.zero) Tryd.underlying23 rfl Tryd.size23) rfl ?_
          rw [HE.out]
          exact ⟨rfl, below_setRow (thenW (thenW (thenW (HB1.out) HB2.out) HB3.out) HB4.out) (by rw [HQ.out]; omega) _⟩
        · rw [hBb] at HM
          have HBb := hide hBb
          clear hBb
          have HE : Hid (mp = (bV true, 0)) := HM.out
          clear HM
          go_enter Tryd.func56, Tryd.ntmps56
          go_upto_region 1 with fail
          try rw [hW1]
          clear hW1
          generalize hq : w.heap.size = q at HT1 ⊢
          have HQ := hide hq
          clear hq
          obtain ⟨a0, a1, a2, a3⟩ := HT1.out.a.cells
          obtain ⟨b0', b1', b2', b3'⟩ := HT1.out.b.cells
          go_upto_region 3 with (first
            | (have _t := HB2; go_at_call 48; refine (HIB.out _).mono ?_; rintro e W3 ⟨rfl, hb3⟩; have HB3 := hide hb3; clear hb3; have HT3 := hide (HT2.out.belowW HB3.out); obtain ⟨d0, d1, d2, d3⟩ := HT3.out.a.cells; obtain ⟨f0, f1, f2, f3⟩ := HT3.out.b.cells; (try rw [HAb.out] at d3); (try rw [HBb.out] at f3))
            | (go_at_call 48; refine (HIA.out _).mono ?_; rintro e W2 ⟨rfl, hb2⟩; have HB2 := hide hb2; clear hb2; have HT2 := hide (HT1.out.belowW HB2.out); obtain ⟨c0, c1, c2, c3⟩ := HT2.out.b.cells))
          go_upto_region 4 with fail
          go_wp2_with (first
            | (go_at_call 53; refine (HTR.out _ _).mono ?_; rintro e W4 ⟨rfl, hb4⟩; have HB4 := hide hb4; clear hb4; have HT4 := hide (HT3.out.belowW HB4.out))
            | (refine wpList_store_val rfl (.tmp 6) (.tmp 40) rfl rfl (q + 2) Vl.zero (bV true) rfl rfl HT4.out.r ?_))
          refine bodyPost_ret (v := telling (bV true) 0) (results_ct Tryd.results56 _ _ (q + 2) 23 _ (0, 0) _ rfl (Box.after HT4.out.r (bV true)) Tryd.underlying23 rfl Tryd.size23) rfl ?_
          rw [HE.out]
          exact ⟨rfl, below_setRow (thenW (thenW (thenW (HB1.out) HB2.out) HB3.out) HB4.out) (by rw [HQ.out]; omega) _⟩
    · have hz : z1 = false := by rw [← hz1]; exact beq_eq_false_iff_ne.2 (fun h => by rw [h] at ht1; cases ht1)
      subst hz
      rcases (show A.b = false ∨ A.b = true by cases A.b <;> simp) with hAb | hAb
      · rw [hAb] at HM
        have HAb := hide hAb
        clear hAb
        cases t2
        · have hz : z2 = true := by rw [← hz2]; exact HZ2.out rfl ht2
          subst hz
          skip
          have HE : Hid (mp = (Vl.zero, 0)) := HM.out
          clear HM
          go_enter Tryd.func56, Tryd.ntmps56
          go_upto_region 1 with fail
          try rw [hW1]
          clear hW1
          generalize hq : w.heap.size = q at HT1 ⊢
          have HQ := hide hq
          clear hq
          obtain ⟨a0, a1, a2, a3⟩ := HT1.out.a.cells
          obtain ⟨b0', b1', b2', b3'⟩ := HT1.out.b.cells
          go_wp2_with (first
            | (go_at_call 47; refine (HNL.out _).mono ?_; rintro e W4 ⟨rfl, hb4⟩; have HB4 := hide hb4; clear hb4; have HT4 := hide (HT3.out.belowW HB4.out))
            | (have _t := HB2; go_at_call 48; refine (HIB.out _).mono ?_; rintro e W3 ⟨rfl, hb3⟩; have HB3 := hide hb3; clear hb3; have HT3 := hide (HT2.out.belowW HB3.out); obtain ⟨d0, d1, d2, d3⟩ := HT3.out.a.cells; obtain ⟨f0, f1, f2, f3⟩ := HT3.out.b.cells; (try rw [HAb.out] at d3); (try rw [HBb.out] at f3))
            | (go_at_call 48; refine (HIA.out _).mono ?_; rintro e W2 ⟨rfl, hb2⟩; have HB2 := hide hb2; clear hb2; have HT2 := hide (HT1.out.belowW HB2.out); obtain ⟨c0, c1, c2, c3⟩ := HT2.out.b.cells)
            | (refine wpList_store_val rfl (.tmp 6) (.tmp 50) rfl rfl (q + 2) Vl.zero Vl.zero rfl rfl HT4.out.r ?_))
          refine bodyPost_ret (v := telling Vl.zero 0) (results_ct Tryd.results56 _ _ (q + 2) 23 _ (0, 0) _ rfl (Box.after HT4.out.r Vl.zero) Tryd.underlying23 rfl Tryd.size23) rfl ?_
          rw [HE.out]
          exact ⟨rfl, below_setRow (thenW (thenW (thenW (HB1.out) HB2.out) HB3.out) HB4.out) (by rw [HQ.out]; omega) _⟩
        · have hz : z2 = false := by rw [← hz2]; exact beq_eq_false_iff_ne.2 (fun h => by rw [h] at ht2; cases ht2)
          subst hz
          rcases (show B.b = false ∨ B.b = true by cases B.b <;> simp) with hBb | hBb
          · rw [hBb] at HM
            have HBb := hide hBb
            clear hBb
            skip
            have HE : Hid (mp = (bV false, 0)) := HM.out
            clear HM
            go_enter Tryd.func56, Tryd.ntmps56
            go_upto_region 1 with fail
            try rw [hW1]
            clear hW1
            generalize hq : w.heap.size = q at HT1 ⊢
            have HQ := hide hq
            clear hq
            obtain ⟨a0, a1, a2, a3⟩ := HT1.out.a.cells
            obtain ⟨b0', b1', b2', b3'⟩ := HT1.out.b.cells
            go_wp2_with (first
              | (go_at_call 53; refine (HTR.out _ _).mono ?_; rintro e W4 ⟨rfl, hb4⟩; have HB4 := hide hb4; clear hb4; have HT4 := hide (HT3.out.belowW HB4.out))
              | (have _t := HB2; go_at_call 48; refine (HIB.out _).mono ?_; rintro e W3 ⟨rfl, hb3⟩; have HB3 := hide hb3; clear hb3; have HT3 := hide (HT2.out.belowW HB3.out); obtain ⟨d0, d1, d2, d3⟩ := HT3.out.a.cells; obtain ⟨f0, f1, f2, f3⟩ := HT3.out.b.cells; (try rw [HAb.out] at d3); (try rw [HBb.out] at f3))
              | (go_at_call 48; refine (HIA.out _).mono ?_; rintro e W2 ⟨rfl, hb2⟩; have HB2 := hide hb2; clear hb2; have HT2 := hide (HT1.out.belowW HB2.out); obtain ⟨c0, c1, c2, c3⟩ := HT2.out.b.cells)
              | (refine wpList_store_val rfl (.tmp 6) (.tmp 53) rfl rfl (q + 2) Vl.zero (bV false) rfl rfl HT4.out.r ?_))
            refine bodyPost_ret (v := telling (bV false) 0) (results_ct Tryd.results56 _ _ (q + 2) 23 _ (0, 0) _ rfl (Box.after HT4.out.r (bV false)) Tryd.underlying23 rfl Tryd.size23) rfl ?_
            rw [HE.out]
            exact ⟨rfl, below_setRow (thenW (thenW (thenW (HB1.out) HB2.out) HB3.out) HB4.out) (by rw [HQ.out]; omega) _⟩
          · rw [hBb] at HM
            have HBb := hide hBb
            clear hBb
            have HE : Hid (mp = (bV true, 0)) := HM.out
            clear HM
            go_enter Tryd.func56, Tryd.ntmps56
            go_upto_region 1 with fail
            try rw [hW1]
            clear hW1
            generalize hq : w.heap.size = q at HT1 ⊢
            have HQ := hide hq
            clear hq
            obtain ⟨a0, a1, a2, a3⟩ := HT1.out.a.cells
            obtain ⟨b0', b1', b2', b3'⟩ := HT1.out.b.cells
            go_upto_region 3 with (first
              | (have _t := HB2; go_at_call 48; refine (HIB.out _).mono ?_; rintro e W3 ⟨rfl, hb3⟩; have HB3 := hide hb3; clear hb3; have HT3 := hide (HT2.out.belowW HB3.out); obtain ⟨d0, d1, d2, d3⟩ := HT3.out.a.cells; obtain ⟨f0, f1, f2, f3⟩ := HT3.out.b.cells; (try rw [HAb.out] at d3); (try rw [HBb.out] at f3))
              | (go_at_call 48; refine (HIA.out _).mono ?_; rintro e W2 ⟨rfl, hb2⟩; have HB2 := hide hb2; clear hb2; have HT2 := hide (HT1.out.belowW HB2.out); obtain ⟨c0, c1, c2, c3⟩ := HT2.out.b.cells))
            go_upto_region 4 with fail
            go_wp2_with (first
              | (go_at_call 53; refine (HTR.out _ _).mono ?_; rintro e W4 ⟨rfl, hb4⟩; have HB4 := hide hb4; clear hb4; have HT4 := hide (HT3.out.belowW HB4.out))
              | (refine wpList_store_val rfl (.tmp 6) (.tmp 40) rfl rfl (q + 2) Vl.zero (bV true) rfl rfl HT4.out.r ?_))
            refine bodyPost_ret (v := telling (bV true) 0) (results_ct Tryd.results56 _ _ (q + 2) 23 _ (0, 0) _ rfl (Box.after HT4.out.r (bV true)) Tryd.underlying23 rfl Tryd.size23) rfl ?_
            rw [HE.out]
            exact ⟨rfl, below_setRow (thenW (thenW (thenW (HB1.out) HB2.out) HB3.out) HB4.out) (by rw [HQ.out]; omega) _⟩
      · rw [hAb] at HM
        have HAb := hide hAb
        clear hAb
        have HE : Hid (mp = (bV true, 0)) := HM.out
        clear HM ht2 hz2 HZ2 t2 z2
        go_enter Tryd.func56, Tryd.ntmps56
        go_upto_region 1 with fail
        try rw [hW1]
        clear hW1
        generalize hq : w.heap.size = q at HT1 ⊢
        have HQ := hide hq
        clear hq
        obtain ⟨a0, a1, a2, a3⟩ := HT1.out.a.cells
        obtain ⟨b0', b1', b2', b3'⟩ := HT1.out.b.cells
        go_upto_region 3 with (first
          | (have _t := HB2; go_at_call 48; refine (HIB.out _).mono ?_; rintro e W3 ⟨rfl, hb3⟩; have HB3 := hide hb3; clear hb3; have HT3 := hide (HT2.out.belowW HB3.out); obtain ⟨d0, d1, d2, d3⟩ := HT3.out.a.cells; obtain ⟨f0, f1, f2, f3⟩ := HT3.out.b.cells; (try rw [HAb.out] at d3); (try rw [HBb.out] at f3))
          | (go_at_call 48; refine (HIA.out _).mono ?_; rintro e W2 ⟨rfl, hb2⟩; have HB2 := hide hb2; clear hb2; have HT2 := hide (HT1.out.belowW HB2.out); obtain ⟨c0, c1, c2, c3⟩ := HT2.out.b.cells))
        go_upto_region 4 with fail
        go_wp2_with (first
          | (go_at_call 53; refine (HTR.out _ _).mono ?_; rintro e W4 ⟨rfl, hb4⟩; have HB4 := hide hb4; clear hb4; have HT4 := hide (HT3.out.belowW HB4.out))
          | (refine wpList_store_val rfl (.tmp 6) (.tmp 40) rfl rfl (q + 2) Vl.zero (bV true) rfl rfl HT4.out.r ?_))
        refine bodyPost_ret (v := telling (bV true) 0) (results_ct Tryd.results56 _ _ (q + 2) 23 _ (0, 0) _ rfl (Box.after HT4.out.r (bV true)) Tryd.underlying23 rfl Tryd.size23) rfl ?_
        rw [HE.out]
        exact ⟨rfl, below_setRow (thenW (thenW (thenW (HB1.out) HB2.out) HB3.out) HB4.out) (by rw [HQ.out]; omega) _⟩
set_option maxHeartbeats 4000000 in
theorem rand_any (A B : Vl) (w : World) : Calls Tryd.prog 23 #[valOf A, valOf B] w fun e w' => e = .returned (telling (andP A B).1 (andP A B).2) ∧ Below w.heap.size w w' := by
  obtain ⟨W1, hW1⟩ : ∃ W1, ((w.alloc (.cells #[.int .i64 A.ty, .int .i64 A.n, .string (strOf A.t), .bool A.b] 23)).alloc (.cells #[.int .i64 B.ty, .int .i64 B.n, .string (strOf B.t), .bool B.b] 23)).alloc (.cells #[.int .i64 0, .int .i64 0, .string { data := #[] }, .bool false] 23) = W1 := ⟨_, rfl⟩
  have HB1 : Hid (Below w.heap.size w W1) := by rw [← hW1]; exact below3 _ _ _ _
  have HT1 : Hid (Two w.heap.size A B W1) := by rw [← hW1]; exact two_new w A B
  have HEI : Hid (∀ W, Calls Tryd.prog 56 #[.agg #[.int .i64 A.ty, .int .i64 A.n, .string (strOf A.t), .bool A.b], .agg #[.int .i64 B.ty, .int .i64 B.n, .string (strOf B.t), .bool B.b], .bool false] W fun e w' => e = .returned (.tuple #[.agg #[.int .i64 (andP A B).1.ty, .int .i64 (andP A B).1.n, .string (strOf (andP A B).1.t), .bool (andP A B).1.b], .int .i64 (andP A B).2]) ∧ Below W.heap.size W w') := fun W => by
    have := either_any A B false W
    rw [eit_and] at this
    exact this
  generalize (andP A B).1 = V at *
  generalize (andP A B).2 = er at *
  unfold valOf
  go_enter Tryd.func23, Tryd.ntmps23
  go_upto_region 1 with fail
  try rw [hW1]
  clear hW1
  generalize hq : w.heap.size = q at HT1 ⊢
  have HQ := hide hq
  clear hq
  obtain ⟨a0, a1, a2, a3⟩ := HT1.out.a.cells
  obtain ⟨b0', b1', b2', b3'⟩ := HT1.out.b.cells
  go_wp2_with (first
    | (go_at_call 56; refine (HEI.out _).mono ?_; rintro e W2 ⟨rfl, hb2⟩; have HB2 := hide hb2; clear hb2; have HT2 := hide (HT1.out.belowW HB2.out))
    | (refine wpList_store_val rfl (.tmp 4) (.tmp 9) rfl rfl (q + 2) Vl.zero V rfl rfl HT2.out.r ?_))
  refine bodyPost_ret (v := telling V er) (results_ct Tryd.results23 _ _ (q + 2) 23 _ (0, 0) _ rfl (Box.after HT2.out.r V) Tryd.underlying23 rfl Tryd.size23) rfl ?_
  exact ⟨rfl, below_setRow (thenW HB1.out HB2.out) (by rw [HQ.out]; omega) _⟩
set_option maxHeartbeats 4000000 in
theorem ror_any (A B : Vl) (w : World) : Calls Tryd.prog 25 #[valOf A, valOf B] w fun e w' => e = .returned (telling (orP A B).1 (orP A B).2) ∧ Below w.heap.size w w' := by
  obtain ⟨W1, hW1⟩ : ∃ W1, ((w.alloc (.cells #[.int .i64 A.ty, .int .i64 A.n, .string (strOf A.t), .bool A.b] 23)).alloc (.cells #[.int .i64 B.ty, .int .i64 B.n, .string (strOf B.t), .bool B.b] 23)).alloc (.cells #[.int .i64 0, .int .i64 0, .string { data := #[] }, .bool false] 23) = W1 := ⟨_, rfl⟩
  have HB1 : Hid (Below w.heap.size w W1) := by rw [← hW1]; exact below3 _ _ _ _
  have HT1 : Hid (Two w.heap.size A B W1) := by rw [← hW1]; exact two_new w A B
  have HEI : Hid (∀ W, Calls Tryd.prog 56 #[.agg #[.int .i64 A.ty, .int .i64 A.n, .string (strOf A.t), .bool A.b], .agg #[.int .i64 B.ty, .int .i64 B.n, .string (strOf B.t), .bool B.b], .bool true] W fun e w' => e = .returned (.tuple #[.agg #[.int .i64 (orP A B).1.ty, .int .i64 (orP A B).1.n, .string (strOf (orP A B).1.t), .bool (orP A B).1.b], .int .i64 (orP A B).2]) ∧ Below W.heap.size W w') := fun W => by
    have := either_any A B true W
    rw [eit_or] at this
    exact this
  generalize (orP A B).1 = V at *
  generalize (orP A B).2 = er at *
  unfold valOf
  go_enter Tryd.func25, Tryd.ntmps25
  go_upto_region 1 with fail
  try rw [hW1]
  clear hW1
  generalize hq : w.heap.size = q at HT1 ⊢
  have HQ := hide hq
  clear hq
  obtain ⟨a0, a1, a2, a3⟩ := HT1.out.a.cells
  obtain ⟨b0', b1', b2', b3'⟩ := HT1.out.b.cells
  go_wp2_with (first
    | (go_at_call 56; refine (HEI.out _).mono ?_; rintro e W2 ⟨rfl, hb2⟩; have HB2 := hide hb2; clear hb2; have HT2 := hide (HT1.out.belowW HB2.out))
    | (refine wpList_store_val rfl (.tmp 4) (.tmp 9) rfl rfl (q + 2) Vl.zero V rfl rfl HT2.out.r ?_))
  refine bodyPost_ret (v := telling V er) (results_ct Tryd.results25 _ _ (q + 2) 23 _ (0, 0) _ rfl (Box.after HT2.out.r V) Tryd.underlying23 rfl Tryd.size23) rfl ?_
  exact ⟨rfl, below_setRow (thenW HB1.out HB2.out) (by rw [HQ.out]; omega) _⟩
set_option maxHeartbeats 4000000 in
theorem rnot_any (A : Vl) (w : World) : Calls Tryd.prog 27 #[valOf A] w fun e w' => e = .returned (telling (notP A).1 (notP A).2) ∧ Below w.heap.size w w' := by
  obtain ⟨W1, hW1⟩ : ∃ W1, (w.alloc (.cells #[.int .i64 A.ty, .int .i64 A.n, .string (strOf A.t), .bool A.b] 23)).alloc (.cells #[.int .i64 0, .int .i64 0, .string { data := #[] }, .bool false] 23) = W1 := ⟨_, rfl⟩
  have HB1 : Hid (Below w.heap.size w W1) := by rw [← hW1]; exact below2 _ _ _
  have HT1 : Hid (One w.heap.size A W1) := by rw [← hW1]; exact one_new w A
  have HNL : Hid (∀ W, Calls Tryd.prog 47 #[] W fun e w' => e = .returned (.agg #[.int .i64 0, .int .i64 0, .string { data := #[] }, .bool false]) ∧ Below W.heap.size W w') := refNull_any
  have HIA : Hid (∀ W, Calls Tryd.prog 48 #[.agg #[.int .i64 A.ty, .int .i64 A.n, .string (strOf A.t), .bool A.b], .int .i64 3] W fun e w' => e = .returned (.bool (isV A 3)) ∧ Below W.heap.size W w') := is_any A 3
  have HTR : Hid (∀ b W, Calls Tryd.prog 53 #[.bool b] W fun e w' => e = .returned (.agg #[.int .i64 3, .int .i64 0, .string { data := #[] }, .bool b]) ∧ Below W.heap.size W w') := refTruth_any
  have HM := hide (not_is A)
  generalize notP A = mp at *
  generalize isV A 3 = b1 at *
  obtain ⟨z1, hz1⟩ : ∃ x, (A.ty == 0) = x := ⟨_, rfl⟩
  rw [hz1] at HM
  unfold valOf
  cases b1
  · have HE : Hid (mp = (Vl.zero, 160)) := HM.out
    clear HM
    go_enter Tryd.func27, Tryd.ntmps27
    go_upto_region 1 with fail
    try rw [hW1]
    clear hW1
    generalize hq : w.heap.size = q at HT1 ⊢
    have HQ := hide hq
    clear hq
    obtain ⟨a0, a1, a2, a3⟩ := HT1.out.a.cells
    go_wp2_with (first
      | (go_at_call 47; refine (HNL.out _).mono ?_; rintro e W3 ⟨rfl, hb3⟩; have HB3 := hide hb3; clear hb3; have HT3 := hide (HT2.out.belowW HB3.out))
      | (go_at_call 48; refine (HIA.out _).mono ?_; rintro e W2 ⟨rfl, hb2⟩; have HB2 := hide hb2; clear hb2; have HT2 := hide (HT1.out.belowW HB2.out); obtain ⟨c0, c1, c2, c3⟩ := HT2.out.a.cells)
      | (refine wpList_store_val rfl (.tmp 2) (.tmp 7) rfl rfl (q + 1) Vl.zero Vl.zero rfl rfl HT3.out.r ?_))
    refine bodyPost_ret (v := telling Vl.zero 160) (results_ct Tryd.results27 _ _ (q + 1) 23 _ (0, 0) _ rfl (Box.after HT3.out.r Vl.zero) Tryd.underlying23 rfl Tryd.size23) rfl ?_
    rw [HE.out]
    exact ⟨rfl, below_setRow (thenW (thenW HB1.out HB2.out) HB3.out) (by rw [HQ.out]; omega) _⟩
  cases z1
  · have HE : Hid (mp = (bV (!A.b), 0)) := HM.out
    clear HM
    go_enter Tryd.func27, Tryd.ntmps27
    go_upto_region 1 with fail
    try rw [hW1]
    clear hW1
    generalize hq : w.heap.size = q at HT1 ⊢
    have HQ := hide hq
    clear hq
    obtain ⟨a0, a1, a2, a3⟩ := HT1.out.a.cells
    go_wp2_with (first
      | (go_at_call 53; refine (HTR.out _ _).mono ?_; rintro e W3 ⟨rfl, hb3⟩; have HB3 := hide hb3; clear hb3; have HT3 := hide (HT2.out.belowW HB3.out))
      | (go_at_call 48; refine (HIA.out _).mono ?_; rintro e W2 ⟨rfl, hb2⟩; have HB2 := hide hb2; clear hb2; have HT2 := hide (HT1.out.belowW HB2.out); obtain ⟨c0, c1, c2, c3⟩ := HT2.out.a.cells)
      | (refine wpList_store_val rfl (.tmp 2) (.tmp 15) rfl rfl (q + 1) Vl.zero (bV (!A.b)) rfl rfl HT3.out.r ?_))
    refine bodyPost_ret (v := telling (bV (!A.b)) 0) (results_ct Tryd.results27 _ _ (q + 1) 23 _ (0, 0) _ rfl (Box.after HT3.out.r (bV (!A.b))) Tryd.underlying23 rfl Tryd.size23) rfl ?_
    rw [HE.out]
    exact ⟨rfl, below_setRow (thenW (thenW HB1.out HB2.out) HB3.out) (by rw [HQ.out]; omega) _⟩
  · have HE : Hid (mp = (Vl.zero, 0)) := HM.out
    clear HM
    go_enter Tryd.func27, Tryd.ntmps27
    go_upto_region 1 with fail
    try rw [hW1]
    clear hW1
    generalize hq : w.heap.size = q at HT1 ⊢
    have HQ := hide hq
    clear hq
    obtain ⟨a0, a1, a2, a3⟩ := HT1.out.a.cells
    go_wp2_with (first
      | (go_at_call 47; refine (HNL.out _).mono ?_; rintro e W3 ⟨rfl, hb3⟩; have HB3 := hide hb3; clear hb3; have HT3 := hide (HT2.out.belowW HB3.out))
      | (go_at_call 48; refine (HIA.out _).mono ?_; rintro e W2 ⟨rfl, hb2⟩; have HB2 := hide hb2; clear hb2; have HT2 := hide (HT1.out.belowW HB2.out); obtain ⟨c0, c1, c2, c3⟩ := HT2.out.a.cells)
      | (refine wpList_store_val rfl (.tmp 2) (.tmp 11) rfl rfl (q + 1) Vl.zero Vl.zero rfl rfl HT3.out.r ?_))
    refine bodyPost_ret (v := telling Vl.zero 0) (results_ct Tryd.results27 _ _ (q + 1) 23 _ (0, 0) _ rfl (Box.after HT3.out.r Vl.zero) Tryd.underlying23 rfl Tryd.size23) rfl ?_
    rw [HE.out]
    exact ⟨rfl, below_setRow (thenW (thenW HB1.out HB2.out) HB3.out) (by rw [HQ.out]; omega) _⟩
end Go.Proofs.YtigafjdacllohaaDoor
