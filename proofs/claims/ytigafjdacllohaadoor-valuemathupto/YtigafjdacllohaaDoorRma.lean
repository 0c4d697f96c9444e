/- The document's Math. -/
import Derived.Test.YtigafjdacllohaaDoorLvl
import Derived.Test.YtigafjdacllohaaDoorRnm
namespace Go.Proofs.YtigafjdacllohaaDoor
open Go.RowKit
set_option linter.unusedVariables false
set_option linter.unusedSimpArgs false
set_option maxRecDepth 100000

theorem known2 (t : Int) (A B : Vl) (ht : t ≠ 0) : (knownE t [A, B] = if (isV A t && isV B t) = true then 0 else 160) ∧ ((isV A t && isV B t) = true → knownA t true [A, B] = !(A.ty == 0 || B.ty == 0)) := by
  unfold isV
  constructor
  · simp only [knownE]
    by_cases h1 : A.ty = 0 <;> by_cases h2 : B.ty = 0 <;> by_cases h3 : A.ty = t <;> by_cases h4 : B.ty = t <;> simp_all
  · simp only [knownA]
    by_cases h1 : A.ty = 0 <;> by_cases h2 : B.ty = 0 <;> by_cases h3 : A.ty = t <;> by_cases h4 : B.ty = t <;> simp_all
theorem mathP_is (op : Int) (A B : Vl) (hk : kindOf op ≠ 0) : mathP op A B = if (isV A (kindOf op) && isV B (kindOf op)) = true then (if (A.ty == 0 || B.ty == 0) = true then (Vl.zero, 0) else if kindOf op = 2 then (tV (A.t ++ B.t), 0) else (rckV op A.n B.n, rckE op A.n B.n)) else (Vl.zero, 160) := by
  obtain ⟨h1, h2⟩ := known2 (kindOf op) A B hk
  unfold mathP
  rw [if_neg hk, h1]
  cases h : (isV A (kindOf op) && isV B (kindOf op))
  · simp
  · rw [h2 h]
    cases (A.ty == 0 || B.ty == 0) <;> simp
theorem num_form (z : Int) : (numE z = 0 ∧ numV z = nV (numV z).n) ∨ (numE z = 161 ∧ numV z = Vl.zero) := by
  unfold numE numV
  split
  · exact .inl ⟨rfl, rfl⟩
  · exact .inr ⟨rfl, rfl⟩
theorem rck_form (op a b : Int) : (rckE op a b = 0 ∧ rckV op a b = nV (rckV op a b).n) ∨ ((rckE op a b = 161 ∨ rckE op a b = 162) ∧ rckV op a b = Vl.zero) := by
  unfold rckE rckV
  split
  · exact .inr ⟨.inr rfl, rfl⟩
  · rcases num_form (zOf op a b) with h | ⟨h1, h2⟩
    · exact .inl h
    · exact .inr ⟨.inl h1, h2⟩
theorem str_add (a b : List UInt8) : strOf a ++ strOf b = strOf (a ++ b) := by
  refine ByteArray.ext ?_
  rw [ByteArray.data_append]
  simp [strOf]
set_option maxHeartbeats 8000000 in
theorem rmath_any (op : Int) (A B : Vl) (hA : A.wf) (hB : B.wf) (hl : A.t.length + B.t.length ≤ 100000000000) (w : World) : Calls Tryd.prog 18 #[.int .i64 op, valOf A, valOf B] w fun e w' => e = .returned (telling (mathP op A B).1 (mathP op A B).2) ∧ Below w.heap.size w w' := by
  obtain ⟨W1, hW1⟩ : ∃ W1, ((w.alloc (.cells #[.int .i64 A.ty, .int .i64 A.n, .string (strOf A.t), .bool A.b] 23)).alloc (.cells #[.int .i64 B.ty, .int .i64 B.n, .string (strOf B.t), .bool B.b] 23)).alloc (.cells #[.int .i64 0, .int .i64 0, .string { data := #[] }, .bool false] 23) = W1 := ⟨_, rfl⟩
  have HB1 : Hid (Below w.heap.size w W1) := by rw [← hW1]; exact below3 _ _ _ _
  have HT1 : Hid (Two w.heap.size A B W1) := by rw [← hW1]; exact two_new w A B
  have HNL : Hid (∀ W, Calls Tryd.prog 47 #[] W fun e w' => e = .returned (.agg #[.int .i64 0, .int .i64 0, .string { data := #[] }, .bool false]) ∧ Below W.heap.size W w') := refNull_any
  have HMZ : Hid (kindOf op = 0 → mathP op A B = (Vl.zero, 1)) := fun h => if_pos h
  have HMP : Hid (kindOf op ≠ 0 → mathP op A B = if (isV A (kindOf op) && isV B (kindOf op)) = true then (if (A.ty == 0 || B.ty == 0) = true then (Vl.zero, 0) else if kindOf op = 2 then (tV (A.t ++ B.t), 0) else (rckV op A.n B.n, rckE op A.n B.n)) else (Vl.zero, 160)) := mathP_is op A B
  have HIA : Hid (∀ t W, Calls Tryd.prog 48 #[.agg #[.int .i64 A.ty, .int .i64 A.n, .string (strOf A.t), .bool A.b], .int .i64 t] W fun e w' => e = .returned (.bool (isV A t)) ∧ Below W.heap.size W w') := is_any A
  have HIB : Hid (∀ t W, Calls Tryd.prog 48 #[.agg #[.int .i64 B.ty, .int .i64 B.n, .string (strOf B.t), .bool B.b], .int .i64 t] W fun e w' => e = .returned (.bool (isV B t)) ∧ Below W.heap.size W w') := is_any B
  have HTX : Hid (∀ W, Calls Tryd.prog 49 #[.string (strOf A.t ++ strOf B.t)] W fun e w' => e = .returned (.agg #[.int .i64 2, .int .i64 0, .string (strOf (A.t ++ B.t)), .bool false]) ∧ Below W.heap.size W w') := fun W => by
    rw [str_add]
    exact refTextOf_any _ W
  have sA : (strOf A.t).size = A.t.length := by simp [strOf, ByteArray.size]
  have sB : (strOf B.t).size = B.t.length := by simp [strOf, ByteArray.size]
  have hs : (strOf A.t).size + (strOf B.t).size ≤ 100000000000 := by omega
  have hs2 : (strOf A.t ++ strOf B.t).size ≤ 100000000000 := by rw [ByteArray.size_append]; exact hs
  have HRK : Hid (kindOf op = 1 → ∀ W, Calls Tryd.prog 50 #[.int .i64 op, .int .i64 A.n, .int .i64 B.n] W fun e w' => e = .returned (.tuple #[.int .i64 (rckV op A.n B.n).n, .int .i64 (rckE op A.n B.n)]) ∧ Below W.heap.size W w') := fun h W => rnum_any op A.n B.n (by rcases kind_or op with h1 | h1 | h1 <;> omega) hA.2 hB.2 W
  have HIN : Hid (∀ n W, Calls Tryd.prog 20 #[.int .i64 n] W fun e w' => e = .returned (.agg #[.int .i64 1, .int .i64 n, .string { data := #[] }, .bool false]) ∧ Below W.heap.size W w') := refInt_any
  have HFM := hide (rck_form op A.n B.n)
  have hkd := kind_or op
  clear hA hB hl sA sB
  generalize mathP op A B = mp at *
  unfold valOf
  rcases hkd with ⟨hk, ho⟩ | ⟨hk, ho⟩ | ⟨hk, ho⟩
  · have k1 : (op == 23) = false := beq_eq_false_iff_ne.2 (by omega)
    have k2 : decide (op < 18) = false := decide_eq_false (by omega)
    have k3 : decide (22 < op) = false := decide_eq_false (by omega)
    have HRC := hide (HRK.out hk)
    have HM := hide (HMP.out (by omega))
    rw [hk] at HM
    clear HMP HMZ HRK hk ho
    have HIAk := hide (HIA.out 1)
    have HIBk := hide (HIB.out 1)
    generalize isV A 1 = b1 at *
    generalize isV B 1 = b2 at *
    obtain ⟨z1, hz1⟩ : ∃ z1, (A.ty == 0) = z1 := ⟨_, rfl⟩
    obtain ⟨z2, hz2⟩ : ∃ z2, (B.ty == 0) = z2 := ⟨_, rfl⟩
    rw [hz1, hz2] at HM
    cases b1
    · have HE : Hid (mp = (Vl.zero, 160)) := HM.out
      clear HM HIA HIB hz1 hz2
      go_enter Tryd.func18, Tryd.ntmps18
      go_upto_region 1 with fail
      try rw [hW1]
      clear hW1
      generalize hq : w.heap.size = q at HT1 ⊢
      have HQ := hide hq
      clear hq
      obtain ⟨a0, a1, a2, a3⟩ := HT1.out.a.cells
      obtain ⟨b0, b1, b2, b3⟩ := HT1.out.b.cells
      go_wp2_with (first
        | (go_at_call 47; refine (HNL.out _).mono ?_; rintro e W3 ⟨rfl, hb3⟩; have HB3 := hide hb3; clear hb3; have HT3 := hide (HT2.out.belowW HB3.out))
        | (go_at_call 48; refine (HIAk.out _).mono ?_; rintro e W2 ⟨rfl, hb2⟩; have HB2 := hide hb2; clear hb2; have HT2 := hide (HT1.out.belowW HB2.out); obtain ⟨c0, c1, c2, c3⟩ := HT2.out.b.cells)
        | (refine wpList_store_val rfl (.tmp 6) (.tmp 30) rfl rfl (q + 2) Vl.zero Vl.zero rfl rfl HT3.out.r ?_))
      refine bodyPost_ret (v := telling Vl.zero 160) (results_ct Tryd.results18 _ _ (q + 2) 23 _ (0, 0) _ rfl (Box.after HT3.out.r Vl.zero) Tryd.underlying23 rfl Tryd.size23) rfl ?_
      rw [HE.out]
      exact ⟨rfl, below_setRow (thenW (thenW (HB1.out) HB2.out) HB3.out) (by rw [HQ.out]; omega) _⟩
    cases b2
    · have HE : Hid (mp = (Vl.zero, 160)) := HM.out
      clear HM HIA HIB hz1 hz2
      go_enter Tryd.func18, Tryd.ntmps18
      go_upto_region 1 with fail
      try rw [hW1]
      clear hW1
      generalize hq : w.heap.size = q at HT1 ⊢
      have HQ := hide hq
      clear hq
      obtain ⟨a0, a1, a2, a3⟩ := HT1.out.a.cells
      obtain ⟨b0, b1, b2, b3⟩ := HT1.out.b.cells
      go_wp2_with (first
        | (go_at_call 47; refine (HNL.out _).mono ?_; rintro e W4 ⟨rfl, hb4⟩; have HB4 := hide hb4; clear hb4; have HT4 := hide (HT3.out.belowW HB4.out))
        | (have _t := HB2; go_at_call 48; refine (HIBk.out _).mono ?_; rintro e W3 ⟨rfl, hb3⟩; have HB3 := hide hb3; clear hb3; have HT3 := hide (HT2.out.belowW HB3.out); obtain ⟨d0, d1, d2, d3⟩ := HT3.out.a.cells; obtain ⟨e0, e1, e2, e3⟩ := HT3.out.b.cells)
        | (go_at_call 48; refine (HIAk.out _).mono ?_; rintro e W2 ⟨rfl, hb2⟩; have HB2 := hide hb2; clear hb2; have HT2 := hide (HT1.out.belowW HB2.out); obtain ⟨c0, c1, c2, c3⟩ := HT2.out.b.cells)
        | (refine wpList_store_val rfl (.tmp 6) (.tmp 30) rfl rfl (q + 2) Vl.zero Vl.zero rfl rfl HT4.out.r ?_))
      refine bodyPost_ret (v := telling Vl.zero 160) (results_ct Tryd.results18 _ _ (q + 2) 23 _ (0, 0) _ rfl (Box.after HT4.out.r Vl.zero) Tryd.underlying23 rfl Tryd.size23) rfl ?_
      rw [HE.out]
      exact ⟨rfl, below_setRow (thenW (thenW (thenW (HB1.out) HB2.out) HB3.out) HB4.out) (by rw [HQ.out]; omega) _⟩
    cases z1
    · cases z2
      · have HE : Hid (mp = (rckV op A.n B.n, rckE op A.n B.n)) := HM.out
        clear HM HIA HIB
        rcases HFM.out with ⟨f1, f2⟩ | ⟨f1, f2⟩
        · rw [f1, f2] at HE
          rw [f1] at HRC
          clear f1 f2 HFM
          generalize (rckV op A.n B.n).n = rn at *
          go_enter Tryd.func18, Tryd.ntmps18
          go_upto_region 1 with fail
          try rw [hW1]
          clear hW1
          generalize hq : w.heap.size = q at HT1 ⊢
          have HQ := hide hq
          clear hq
          obtain ⟨a0, a1, a2, a3⟩ := HT1.out.a.cells
          obtain ⟨b0, b1, b2, b3⟩ := HT1.out.b.cells
          go_wp2_with (first
            | (go_at_call 50; refine (HRC.out _).mono ?_; rintro e W4 ⟨rfl, hb4⟩; have HB4 := hide hb4; clear hb4; have HT4 := hide (HT3.out.belowW HB4.out))
            | (go_at_call 20; refine (HIN.out _ _).mono ?_; rintro e W5 ⟨rfl, hb5⟩; have HB5 := hide hb5; clear hb5; have HT5 := hide (HT4.out.belowW HB5.out))
            | (have _t := HB2; go_at_call 48; refine (HIBk.out _).mono ?_; rintro e W3 ⟨rfl, hb3⟩; have HB3 := hide hb3; clear hb3; have HT3 := hide (HT2.out.belowW HB3.out); obtain ⟨d0, d1, d2, d3⟩ := HT3.out.a.cells; obtain ⟨e0, e1, e2, e3⟩ := HT3.out.b.cells)
            | (go_at_call 48; refine (HIAk.out _).mono ?_; rintro e W2 ⟨rfl, hb2⟩; have HB2 := hide hb2; clear hb2; have HT2 := hide (HT1.out.belowW HB2.out); obtain ⟨c0, c1, c2, c3⟩ := HT2.out.b.cells)
            | (refine wpList_store_val rfl (.tmp 6) (.tmp 62) rfl rfl (q + 2) Vl.zero (nV rn) rfl rfl HT5.out.r ?_))
          refine bodyPost_ret (v := telling (nV rn) 0) (results_ct Tryd.results18 _ _ (q + 2) 23 _ (0, 0) _ rfl (Box.after HT5.out.r (nV rn)) Tryd.underlying23 rfl Tryd.size23) rfl ?_
          rw [HE.out]
          exact ⟨rfl, below_setRow (thenW (thenW (thenW (thenW (HB1.out) HB2.out) HB3.out) HB4.out) HB5.out) (by rw [HQ.out]; omega) _⟩
        · rw [f2] at HE HRC
          have HN0 : Hid (rckE op A.n B.n = 161 ∨ rckE op A.n B.n = 162) := f1
          clear f1 f2 HFM
          generalize rckE op A.n B.n = er at *
          have z0 : Hid (Vl.zero.n = 0) := rfl
          rcases HN0.out with rfl | rfl
          all_goals
            go_enter Tryd.func18, Tryd.ntmps18
            go_upto_region 1 with fail
            try rw [hW1]
            clear hW1
            generalize hq : w.heap.size = q at HT1 ⊢
            have HQ := hide hq
            clear hq
            obtain ⟨a0, a1, a2, a3⟩ := HT1.out.a.cells
            obtain ⟨b0, b1, b2, b3⟩ := HT1.out.b.cells
            go_wp2_with (first
              | (go_at_call 50; refine (HRC.out _).mono ?_; rintro e W4 ⟨rfl, hb4⟩; have HB4 := hide hb4; clear hb4; have HT4 := hide (HT3.out.belowW HB4.out))
              | (go_at_call 47; refine (HNL.out _).mono ?_; rintro e W5 ⟨rfl, hb5⟩; have HB5 := hide hb5; clear hb5; have HT5 := hide (HT4.out.belowW HB5.out))
              | (have _t := HB2; go_at_call 48; refine (HIBk.out _).mono ?_; rintro e W3 ⟨rfl, hb3⟩; have HB3 := hide hb3; clear hb3; have HT3 := hide (HT2.out.belowW HB3.out); obtain ⟨d0, d1, d2, d3⟩ := HT3.out.a.cells; obtain ⟨e0, e1, e2, e3⟩ := HT3.out.b.cells)
              | (go_at_call 48; refine (HIAk.out _).mono ?_; rintro e W2 ⟨rfl, hb2⟩; have HB2 := hide hb2; clear hb2; have HT2 := hide (HT1.out.belowW HB2.out); obtain ⟨c0, c1, c2, c3⟩ := HT2.out.b.cells)
              | (refine wpList_store_val rfl (.tmp 6) (.tmp 59) rfl rfl (q + 2) Vl.zero Vl.zero rfl rfl HT5.out.r ?_))
          · refine bodyPost_ret (v := telling Vl.zero 161) (results_ct Tryd.results18 _ _ (q + 2) 23 _ (0, 0) _ rfl (Box.after HT5.out.r Vl.zero) Tryd.underlying23 rfl Tryd.size23) rfl ?_
            rw [HE.out]
            exact ⟨rfl, below_setRow (thenW (thenW (thenW (thenW (HB1.out) HB2.out) HB3.out) HB4.out) HB5.out) (by rw [HQ.out]; omega) _⟩
          · refine bodyPost_ret (v := telling Vl.zero 162) (results_ct Tryd.results18 _ _ (q + 2) 23 _ (0, 0) _ rfl (Box.after HT5.out.r Vl.zero) Tryd.underlying23 rfl Tryd.size23) rfl ?_
            rw [HE.out]
            exact ⟨rfl, below_setRow (thenW (thenW (thenW (thenW (HB1.out) HB2.out) HB3.out) HB4.out) HB5.out) (by rw [HQ.out]; omega) _⟩
      · have HE : Hid (mp = (Vl.zero, 0)) := HM.out
        clear HM HIA HIB
        go_enter Tryd.func18, Tryd.ntmps18
        go_upto_region 1 with fail
        try rw [hW1]
        clear hW1
        generalize hq : w.heap.size = q at HT1 ⊢
        have HQ := hide hq
        clear hq
        obtain ⟨a0, a1, a2, a3⟩ := HT1.out.a.cells
        obtain ⟨b0, b1, b2, b3⟩ := HT1.out.b.cells
        go_wp2_with (first
          | (go_at_call 47; refine (HNL.out _).mono ?_; rintro e W4 ⟨rfl, hb4⟩; have HB4 := hide hb4; clear hb4; have HT4 := hide (HT3.out.belowW HB4.out))
          | (have _t := HB2; go_at_call 48; refine (HIBk.out _).mono ?_; rintro e W3 ⟨rfl, hb3⟩; have HB3 := hide hb3; clear hb3; have HT3 := hide (HT2.out.belowW HB3.out); obtain ⟨d0, d1, d2, d3⟩ := HT3.out.a.cells; obtain ⟨e0, e1, e2, e3⟩ := HT3.out.b.cells)
          | (go_at_call 48; refine (HIAk.out _).mono ?_; rintro e W2 ⟨rfl, hb2⟩; have HB2 := hide hb2; clear hb2; have HT2 := hide (HT1.out.belowW HB2.out); obtain ⟨c0, c1, c2, c3⟩ := HT2.out.b.cells)
          | (refine wpList_store_val rfl (.tmp 6) (.tmp 39) rfl rfl (q + 2) Vl.zero Vl.zero rfl rfl HT4.out.r ?_))
        refine bodyPost_ret (v := telling Vl.zero 0) (results_ct Tryd.results18 _ _ (q + 2) 23 _ (0, 0) _ rfl (Box.after HT4.out.r Vl.zero) Tryd.underlying23 rfl Tryd.size23) rfl ?_
        rw [HE.out]
        exact ⟨rfl, below_setRow (thenW (thenW (thenW (HB1.out) HB2.out) HB3.out) HB4.out) (by rw [HQ.out]; omega) _⟩
    · have HE : Hid (mp = (Vl.zero, 0)) := by rw [Hid, HM.out]; cases z2 <;> rfl
      clear HM HIA HIB hz2
      go_enter Tryd.func18, Tryd.ntmps18
      go_upto_region 1 with fail
      try rw [hW1]
      clear hW1
      generalize hq : w.heap.size = q at HT1 ⊢
      have HQ := hide hq
      clear hq
      obtain ⟨a0, a1, a2, a3⟩ := HT1.out.a.cells
      obtain ⟨b0, b1, b2, b3⟩ := HT1.out.b.cells
      go_wp2_with (first
        | (go_at_call 47; refine (HNL.out _).mono ?_; rintro e W4 ⟨rfl, hb4⟩; have HB4 := hide hb4; clear hb4; have HT4 := hide (HT3.out.belowW HB4.out))
        | (have _t := HB2; go_at_call 48; refine (HIBk.out _).mono ?_; rintro e W3 ⟨rfl, hb3⟩; have HB3 := hide hb3; clear hb3; have HT3 := hide (HT2.out.belowW HB3.out); obtain ⟨d0, d1, d2, d3⟩ := HT3.out.a.cells; obtain ⟨e0, e1, e2, e3⟩ := HT3.out.b.cells)
        | (go_at_call 48; refine (HIAk.out _).mono ?_; rintro e W2 ⟨rfl, hb2⟩; have HB2 := hide hb2; clear hb2; have HT2 := hide (HT1.out.belowW HB2.out); obtain ⟨c0, c1, c2, c3⟩ := HT2.out.b.cells)
        | (refine wpList_store_val rfl (.tmp 6) (.tmp 39) rfl rfl (q + 2) Vl.zero Vl.zero rfl rfl HT4.out.r ?_))
      refine bodyPost_ret (v := telling Vl.zero 0) (results_ct Tryd.results18 _ _ (q + 2) 23 _ (0, 0) _ rfl (Box.after HT4.out.r Vl.zero) Tryd.underlying23 rfl Tryd.size23) rfl ?_
      rw [HE.out]
      exact ⟨rfl, below_setRow (thenW (thenW (thenW (HB1.out) HB2.out) HB3.out) HB4.out) (by rw [HQ.out]; omega) _⟩
  · subst ho
    have HRC := hs
    have HM := hide (HMP.out (by omega))
    rw [hk] at HM
    clear HMP HMZ HRK hk
    have HIAk := hide (HIA.out 2)
    have HIBk := hide (HIB.out 2)
    generalize isV A 2 = b1 at *
    generalize isV B 2 = b2 at *
    obtain ⟨z1, hz1⟩ : ∃ z1, (A.ty == 0) = z1 := ⟨_, rfl⟩
    obtain ⟨z2, hz2⟩ : ∃ z2, (B.ty == 0) = z2 := ⟨_, rfl⟩
    rw [hz1, hz2] at HM
    cases b1
    · have HE : Hid (mp = (Vl.zero, 160)) := HM.out
      clear HM HIA HIB hz1 hz2
      go_enter Tryd.func18, Tryd.ntmps18
      go_upto_region 1 with fail
      try rw [hW1]
      clear hW1
      generalize hq : w.heap.size = q at HT1 ⊢
      have HQ := hide hq
      clear hq
      obtain ⟨a0, a1, a2, a3⟩ := HT1.out.a.cells
      obtain ⟨b0, b1, b2, b3⟩ := HT1.out.b.cells
      go_wp2_with (first
        | (go_at_call 47; refine (HNL.out _).mono ?_; rintro e W3 ⟨rfl, hb3⟩; have HB3 := hide hb3; clear hb3; have HT3 := hide (HT2.out.belowW HB3.out))
        | (go_at_call 48; refine (HIAk.out _).mono ?_; rintro e W2 ⟨rfl, hb2⟩; have HB2 := hide hb2; clear hb2; have HT2 := hide (HT1.out.belowW HB2.out); obtain ⟨c0, c1, c2, c3⟩ := HT2.out.b.cells)
        | (refine wpList_store_val rfl (.tmp 6) (.tmp 30) rfl rfl (q + 2) Vl.zero Vl.zero rfl rfl HT3.out.r ?_))
      refine bodyPost_ret (v := telling Vl.zero 160) (results_ct Tryd.results18 _ _ (q + 2) 23 _ (0, 0) _ rfl (Box.after HT3.out.r Vl.zero) Tryd.underlying23 rfl Tryd.size23) rfl ?_
      rw [HE.out]
      exact ⟨rfl, below_setRow (thenW (thenW (HB1.out) HB2.out) HB3.out) (by rw [HQ.out]; omega) _⟩
    cases b2
    · have HE : Hid (mp = (Vl.zero, 160)) := HM.out
      clear HM HIA HIB hz1 hz2
      go_enter Tryd.func18, Tryd.ntmps18
      go_upto_region 1 with fail
      try rw [hW1]
      clear hW1
      generalize hq : w.heap.size = q at HT1 ⊢
      have HQ := hide hq
      clear hq
      obtain ⟨a0, a1, a2, a3⟩ := HT1.out.a.cells
      obtain ⟨b0, b1, b2, b3⟩ := HT1.out.b.cells
      go_wp2_with (first
        | (go_at_call 47; refine (HNL.out _).mono ?_; rintro e W4 ⟨rfl, hb4⟩; have HB4 := hide hb4; clear hb4; have HT4 := hide (HT3.out.belowW HB4.out))
        | (have _t := HB2; go_at_call 48; refine (HIBk.out _).mono ?_; rintro e W3 ⟨rfl, hb3⟩; have HB3 := hide hb3; clear hb3; have HT3 := hide (HT2.out.belowW HB3.out); obtain ⟨d0, d1, d2, d3⟩ := HT3.out.a.cells; obtain ⟨e0, e1, e2, e3⟩ := HT3.out.b.cells)
        | (go_at_call 48; refine (HIAk.out _).mono ?_; rintro e W2 ⟨rfl, hb2⟩; have HB2 := hide hb2; clear hb2; have HT2 := hide (HT1.out.belowW HB2.out); obtain ⟨c0, c1, c2, c3⟩ := HT2.out.b.cells)
        | (refine wpList_store_val rfl (.tmp 6) (.tmp 30) rfl rfl (q + 2) Vl.zero Vl.zero rfl rfl HT4.out.r ?_))
      refine bodyPost_ret (v := telling Vl.zero 160) (results_ct Tryd.results18 _ _ (q + 2) 23 _ (0, 0) _ rfl (Box.after HT4.out.r Vl.zero) Tryd.underlying23 rfl Tryd.size23) rfl ?_
      rw [HE.out]
      exact ⟨rfl, below_setRow (thenW (thenW (thenW (HB1.out) HB2.out) HB3.out) HB4.out) (by rw [HQ.out]; omega) _⟩
    cases z1
    · cases z2
      · have HE : Hid (mp = (tV (A.t ++ B.t), 0)) := HM.out
        clear HM HIA HIB
        go_enter Tryd.func18, Tryd.ntmps18
        go_upto_region 1 with fail
        try rw [hW1]
        clear hW1
        generalize hq : w.heap.size = q at HT1 ⊢
        have HQ := hide hq
        clear hq
        obtain ⟨a0, a1, a2, a3⟩ := HT1.out.a.cells
        obtain ⟨b0, b1, b2, b3⟩ := HT1.out.b.cells
        go_wp2_with (first
          | (go_at_call 49; refine (HTX.out _).mono ?_; rintro e W4 ⟨rfl, hb4⟩; have HB4 := hide hb4; clear hb4; have HT4 := hide (HT3.out.belowW HB4.out))
          | (have _t := HB2; go_at_call 48; refine (HIBk.out _).mono ?_; rintro e W3 ⟨rfl, hb3⟩; have HB3 := hide hb3; clear hb3; have HT3 := hide (HT2.out.belowW HB3.out); obtain ⟨d0, d1, d2, d3⟩ := HT3.out.a.cells; obtain ⟨e0, e1, e2, e3⟩ := HT3.out.b.cells)
          | (go_at_call 48; refine (HIAk.out _).mono ?_; rintro e W2 ⟨rfl, hb2⟩; have HB2 := hide hb2; clear hb2; have HT2 := hide (HT1.out.belowW HB2.out); obtain ⟨c0, c1, c2, c3⟩ := HT2.out.b.cells)
          | (refine wpList_store_val rfl (.tmp 6) (.tmp 47) rfl rfl (q + 2) Vl.zero (tV (A.t ++ B.t)) rfl rfl HT4.out.r ?_))
        refine bodyPost_ret (v := telling (tV (A.t ++ B.t)) 0) (results_ct Tryd.results18 _ _ (q + 2) 23 _ (0, 0) _ rfl (Box.after HT4.out.r (tV (A.t ++ B.t))) Tryd.underlying23 rfl Tryd.size23) rfl ?_
        rw [HE.out]
        exact ⟨rfl, below_setRow (thenW (thenW (thenW (HB1.out) HB2.out) HB3.out) HB4.out) (by rw [HQ.out]; omega) _⟩
      · have HE : Hid (mp = (Vl.zero, 0)) := HM.out
        clear HM HIA HIB
        go_enter Tryd.func18, Tryd.ntmps18
        go_upto_region 1 with fail
        try rw [hW1]
        clear hW1
        generalize hq : w.heap.size = q at HT1 ⊢
        have HQ := hide hq
        clear hq
        obtain ⟨a0, a1, a2, a3⟩ := HT1.out.a.cells
        obtain ⟨b0, b1, b2, b3⟩ := HT1.out.b.cells
        go_wp2_with (first
          | (go_at_call 47; refine (HNL.out _).mono ?_; rintro e W4 ⟨rfl, hb4⟩; have HB4 := hide hb4; clear hb4; have HT4 := hide (HT3.out.belowW HB4.out))
          | (have _t := HB2; go_at_call 48; refine (HIBk.out _).mono ?_; rintro e W3 ⟨rfl, hb3⟩; have HB3 := hide hb3; clear hb3; have HT3 := hide (HT2.out.belowW HB3.out); obtain ⟨d0, d1, d2, d3⟩ := HT3.out.a.cells; obtain ⟨e0, e1, e2, e3⟩ := HT3.out.b.cells)
          | (go_at_call 48; refine (HIAk.out _).mono ?_; rintro e W2 ⟨rfl, hb2⟩; have HB2 := hide hb2; clear hb2; have HT2 := hide (HT1.out.belowW HB2.out); obtain ⟨c0, c1, c2, c3⟩ := HT2.out.b.cells)
          | (refine wpList_store_val rfl (.tmp 6) (.tmp 39) rfl rfl (q + 2) Vl.zero Vl.zero rfl rfl HT4.out.r ?_))
        refine bodyPost_ret (v := telling Vl.zero 0) (results_ct Tryd.results18 _ _ (q + 2) 23 _ (0, 0) _ rfl (Box.after HT4.out.r Vl.zero) Tryd.underlying23 rfl Tryd.size23) rfl ?_
        rw [HE.out]
        exact ⟨rfl, below_setRow (thenW (thenW (thenW (HB1.out) HB2.out) HB3.out) HB4.out) (by rw [HQ.out]; omega) _⟩
    · have HE : Hid (mp = (Vl.zero, 0)) := by rw [Hid, HM.out]; cases z2 <;> rfl
      clear HM HIA HIB hz2
      go_enter Tryd.func18, Tryd.ntmps18
      go_upto_region 1 with fail
      try rw [hW1]
      clear hW1
      generalize hq : w.heap.size = q at HT1 ⊢
      have HQ := hide hq
      clear hq
      obtain ⟨a0, a1, a2, a3⟩ := HT1.out.a.cells
      obtain ⟨b0, b1, b2, b3⟩ := HT1.out.b.cells
      go_wp2_with (first
        | (go_at_call 47; refine (HNL.out _).mono ?_; rintro e W4 ⟨rfl, hb4⟩; have HB4 := hide hb4; clear hb4; have HT4 := hide (HT3.out.belowW HB4.out))
        | (have _t := HB2; go_at_call 48; refine (HIBk.out _).mono ?_; rintro e W3 ⟨rfl, hb3⟩; have HB3 := hide hb3; clear hb3; have HT3 := hide (HT2.out.belowW HB3.out); obtain ⟨d0, d1, d2, d3⟩ := HT3.out.a.cells; obtain ⟨e0, e1, e2, e3⟩ := HT3.out.b.cells)
        | (go_at_call 48; refine (HIAk.out _).mono ?_; rintro e W2 ⟨rfl, hb2⟩; have HB2 := hide hb2; clear hb2; have HT2 := hide (HT1.out.belowW HB2.out); obtain ⟨c0, c1, c2, c3⟩ := HT2.out.b.cells)
        | (refine wpList_store_val rfl (.tmp 6) (.tmp 39) rfl rfl (q + 2) Vl.zero Vl.zero rfl rfl HT4.out.r ?_))
      refine bodyPost_ret (v := telling Vl.zero 0) (results_ct Tryd.results18 _ _ (q + 2) 23 _ (0, 0) _ rfl (Box.after HT4.out.r Vl.zero) Tryd.underlying23 rfl Tryd.size23) rfl ?_
      rw [HE.out]
      exact ⟨rfl, below_setRow (thenW (thenW (thenW (HB1.out) HB2.out) HB3.out) HB4.out) (by rw [HQ.out]; omega) _⟩
  · have HE := hide (HMZ.out hk)
    have k1 : (op == 23) = false := beq_eq_false_iff_ne.2 (by omega)
    by_cases h18 : op < 18
    · have k2 : decide (op < 18) = true := decide_eq_true h18
      clear HMZ HMP HRK hk ho h18
      go_enter Tryd.func18, Tryd.ntmps18
      go_upto_region 1 with fail
      try rw [hW1]
      clear hW1
      generalize hq : w.heap.size = q at HT1 ⊢
      have HQ := hide hq
      clear hq
      obtain ⟨a0, a1, a2, a3⟩ := HT1.out.a.cells
      obtain ⟨b0, b1, b2, b3⟩ := HT1.out.b.cells
      go_wp2_with (first
        | (go_at_call 47; refine (HNL.out _).mono ?_; rintro e W2 ⟨rfl, hb2⟩; have HB2 := hide hb2; clear hb2; have HT2 := hide (HT1.out.belowW HB2.out))
        | (refine wpList_store_val rfl (.tmp 6) (.tmp 19) rfl rfl (q + 2) Vl.zero Vl.zero rfl rfl HT2.out.r ?_))
      refine bodyPost_ret (v := telling Vl.zero 1) (results_ct Tryd.results18 _ _ (q + 2) 23 _ (0, 0) _ rfl (Box.after HT2.out.r Vl.zero) Tryd.underlying23 rfl Tryd.size23) rfl ?_
      rw [HE.out]
      exact ⟨rfl, below_setRow (thenW (HB1.out) HB2.out) (by rw [HQ.out]; omega) _⟩
    · have k2 : decide (op < 18) = false := decide_eq_false h18
      have k3 : decide (22 < op) = true := decide_eq_true (by omega)
      clear HMZ HMP HRK hk ho h18
      go_enter Tryd.func18, Tryd.ntmps18
      go_upto_region 1 with fail
      try rw [hW1]
      clear hW1
      generalize hq : w.heap.size = q at HT1 ⊢
      have HQ := hide hq
      clear hq
      obtain ⟨a0, a1, a2, a3⟩ := HT1.out.a.cells
      obtain ⟨b0, b1, b2, b3⟩ := HT1.out.b.cells
      go_wp2_with (first
        | (go_at_call 47; refine (HNL.out _).mono ?_; rintro e W2 ⟨rfl, hb2⟩; have HB2 := hide hb2; clear hb2; have HT2 := hide (HT1.out.belowW HB2.out))
        | (refine wpList_store_val rfl (.tmp 6) (.tmp 19) rfl rfl (q + 2) Vl.zero Vl.zero rfl rfl HT2.out.r ?_))
      refine bodyPost_ret (v := telling Vl.zero 1) (results_ct Tryd.results18 _ _ (q + 2) 23 _ (0, 0) _ rfl (Box.after HT2.out.r Vl.zero) Tryd.underlying23 rfl Tryd.size23) rfl ?_
      rw [HE.out]
      exact ⟨rfl, below_setRow (thenW (HB1.out) HB2.out) (by rw [HQ.out]; omega) _⟩
end Go.Proofs.YtigafjdacllohaaDoor
