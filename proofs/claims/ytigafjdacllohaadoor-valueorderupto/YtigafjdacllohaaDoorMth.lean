/- Math, Neg. -/
import Derived.Test.YtigafjdacllohaaDoorMat
namespace Go.Proofs.YtigafjdacllohaaDoor
open Go.RowKit
set_option linter.unusedVariables false
set_option linter.unusedSimpArgs false
set_option maxRecDepth 100000

def mathP (op : Int) (a b : Vl) : Vl × Int :=
  if kindOf op = 0 then (Vl.zero, 1) else if knownE (kindOf op) [a, b] ≠ 0 then (Vl.zero, 160)
  else if knownA (kindOf op) true [a, b] = false then (Vl.zero, 0) else if kindOf op = 2 then (tV (a.t ++ b.t), 0) else (rckV op a.n b.n, rckE op a.n b.n)
theorem knownE_or (k : Int) : ∀ l, knownE k l = 0 ∨ knownE k l = 160
  | [] => .inl rfl
  | v :: r => by
    unfold knownE
    split
    · exact knownE_or k r
    · split
      · exact knownE_or k r
      · exact .inr rfl
theorem kind_or (op : Int) : (kindOf op = 1 ∧ (op = 18 ∨ op = 19 ∨ op = 20 ∨ op = 21 ∨ op = 22)) ∨ (kindOf op = 2 ∧ op = 23) ∨ (kindOf op = 0 ∧ (op < 18 ∨ 23 < op)) := by
  unfold kindOf
  split
  · exact .inl ⟨rfl, by assumption⟩
  · split
    · exact .inr (.inl ⟨rfl, by assumption⟩)
    · exact .inr (.inr ⟨rfl, by omega⟩)
theorem vs2 (W : World) (A B : Vl) : VsAt (W.alloc (.cells #[.int .i64 A.ty, .int .i64 A.n, .string (strOf A.t), .bool A.b, .int .i64 B.ty, .int .i64 B.n, .string (strOf B.t), .bool B.b] 23)) (.slice (some ⟨W.heap.size, 0, none⟩) 2 2) [A, B] := by
  refine ⟨_, _, rfl, Nat.le_refl _, by simp [maxLen], fun _ => ⟨_, _, rfl, fun j u hu => ?_⟩⟩
  rw [Nat.zero_add, cell_row (heap_alloc_new W _)]
  simpa [vsCells, vcells] using hu
theorem txt2 (W : World) (a b : List UInt8) (i : Nat) (hi : i < [a, b].length) : (W.alloc (.cells #[.string (strOf a), .string (strOf b)] 9)).cell? ⟨W.heap.size, i, none⟩ = some (.string (strOf ([a, b].getD i []))) := by
  rw [cell_row (heap_alloc_new W _)]
  match i, hi with
  | 0, _ => rfl
  | 1, _ => rfl
theorem boxes3 (w : World) (A B : Vl) : Box (((w.alloc (.cells #[.int .i64 A.ty, .int .i64 A.n, .string (strOf A.t), .bool A.b] 23)).alloc (.cells #[.int .i64 B.ty, .int .i64 B.n, .string (strOf B.t), .bool B.b] 23)).alloc (.cells #[.int .i64 0, .int .i64 0, .string { data := #[] }, .bool false] 23)) w.heap.size A ∧ Box (((w.alloc (.cells #[.int .i64 A.ty, .int .i64 A.n, .string (strOf A.t), .bool A.b] 23)).alloc (.cells #[.int .i64 B.ty, .int .i64 B.n, .string (strOf B.t), .bool B.b] 23)).alloc (.cells #[.int .i64 0, .int .i64 0, .string { data := #[] }, .bool false] 23)) (w.heap.size + 1) B ∧ Box (((w.alloc (.cells #[.int .i64 A.ty, .int .i64 A.n, .string (strOf A.t), .bool A.b] 23)).alloc (.cells #[.int .i64 B.ty, .int .i64 B.n, .string (strOf B.t), .bool B.b] 23)).alloc (.cells #[.int .i64 0, .int .i64 0, .string { data := #[] }, .bool false] 23)) (w.heap.size + 2) Vl.zero := by
  refine ⟨?_, ?_, third _ _ _ _⟩
  · exact (Below.heap_alloc _ _ _ (by simp; omega)).trans (first2 w _ _)
  · exact (Below.heap_alloc _ _ _ (by simp)).trans (new2 w _ _)
/-- Where a function of two values stands: their boxes, the result's. -/
structure Two (q : Nat) (A B : Vl) (W : World) : Prop where
  a : Box W q A
  b : Box W (q + 1) B
  r : Box W (q + 2) Vl.zero
theorem Two.belowW {q : Nat} {A B : Vl} {w w' : World} (h : Two q A B w) (hb : Below w.heap.size w w') : Two q A B w' := ⟨h.a.belowW hb, h.b.belowW hb, h.r.belowW hb⟩
theorem Two.alloc {q : Nat} {A B : Vl} {w : World} (h : Two q A B w) (o : Obj) : Two q A B (w.alloc o) := h.belowW ((Below.refl _ _).alloc (Nat.le_refl _) _)
theorem two_new (w : World) (A B : Vl) : Two w.heap.size A B (((w.alloc (.cells #[.int .i64 A.ty, .int .i64 A.n, .string (strOf A.t), .bool A.b] 23)).alloc (.cells #[.int .i64 B.ty, .int .i64 B.n, .string (strOf B.t), .bool B.b] 23)).alloc (.cells #[.int .i64 0, .int .i64 0, .string { data := #[] }, .bool false] 23)) := ⟨(boxes3 w A B).1, (boxes3 w A B).2.1, (boxes3 w A B).2.2⟩
set_option maxHeartbeats 4000000 in
theorem math_any (op : Int) (A B : Vl) (hA : A.wf) (hB : B.wf) (hl : A.t.length + B.t.length ≤ 100000000000) (w : World) : Calls Tryd.prog 16 #[.int .i64 op, valOf A, valOf B] w fun e w' => e = .returned (telling (mathP op A B).1 (mathP op A B).2) ∧ Below w.heap.size w w' := by
  obtain ⟨W1, hW1⟩ : ∃ W1, ((w.alloc (.cells #[.int .i64 A.ty, .int .i64 A.n, .string (strOf A.t), .bool A.b] 23)).alloc (.cells #[.int .i64 B.ty, .int .i64 B.n, .string (strOf B.t), .bool B.b] 23)).alloc (.cells #[.int .i64 0, .int .i64 0, .string { data := #[] }, .bool false] 23) = W1 := ⟨_, rfl⟩
  have HB1 : Hid (Below w.heap.size w W1) := by rw [← hW1]; exact below3 _ _ _ _
  have HT1 : Hid (Two w.heap.size A B W1) := by rw [← hW1]; exact two_new w A B
  have HOP : Hid (∀ w, Calls Tryd.prog 41 #[.int .i64 op] w fun e w' => e = .returned (.int .i64 (kindOf op)) ∧ w' = w) := operands_any op
  have HKN : Hid (∀ W, Calls Tryd.prog 38 #[.int .i64 (kindOf op), .slice (some ⟨W.heap.size, 0, none⟩) 2 2] (W.alloc (.cells #[.int .i64 A.ty, .int .i64 A.n, .string (strOf A.t), .bool A.b, .int .i64 B.ty, .int .i64 B.n, .string (strOf B.t), .bool B.b] 23)) fun e w' => e = .returned (.tuple #[.bool (knownA (kindOf op) true [A, B]), .int .i64 (knownE (kindOf op) [A, B])]) ∧ Below W.heap.size W w') := fun W =>
    (known_any (vs2 W A B) _).mono fun e w' ⟨h1, h2⟩ => ⟨h1, ((Below.refl _ W).alloc (Nat.le_refl _) _).trans (h2.mono (by simp))⟩
  have HTX : Hid (∀ W, Calls Tryd.prog 42 #[.slice (some ⟨W.heap.size, 0, none⟩) 2 2] (W.alloc (.cells #[.string (strOf A.t), .string (strOf B.t)] 9)) fun e w' => e = .returned (.agg #[.int .i64 (tV (A.t ++ B.t)).ty, .int .i64 (tV (A.t ++ B.t)).n, .string (strOf (tV (A.t ++ B.t)).t), .bool (tV (A.t ++ B.t)).b]) ∧ Below W.heap.size W w') := fun W =>
    (text_any (l := [A.t, B.t]) (txt2 W A.t B.t) (by simp; omega) (by simp)).mono fun e w' ⟨h1, h2⟩ => ⟨by rw [h1]; simp [valOf], ((Below.refl _ W).alloc (Nat.le_refl _) _).trans (h2.mono (by simp))⟩
  have HRK : Hid (kindOf op = 1 → ∀ W, Calls Tryd.prog 43 #[.int .i64 op, .int .i64 A.n, .int .i64 B.n] W fun e w' => e = .returned (.tuple #[.agg #[.int .i64 (rckV op A.n B.n).ty, .int .i64 (rckV op A.n B.n).n, .string (strOf (rckV op A.n B.n).t), .bool (rckV op A.n B.n).b], .int .i64 (rckE op A.n B.n)]) ∧ Below W.heap.size W w') := fun h W => reckon_any op A.n B.n (by rcases kind_or op with h1 | h1 | h1 <;> omega) hA.2 hB.2 W
  have HMP : Hid (mathP op A B = if kindOf op = 0 then (Vl.zero, 1) else if knownE (kindOf op) [A, B] ≠ 0 then (Vl.zero, 160) else if knownA (kindOf op) true [A, B] = false then (Vl.zero, 0) else if kindOf op = 2 then (tV (A.t ++ B.t), 0) else (rckV op A.n B.n, rckE op A.n B.n)) := rfl
  have hke := knownE_or (kindOf op) [A, B]
  have hkd : kindOf op = 1 ∨ kindOf op = 2 ∨ kindOf op = 0 := by rcases kind_or op with h1 | h1 | h1 <;> simp [h1.1]
  generalize mathP op A B = mp at *
  generalize knownE (kindOf op) [A, B] = ke at *
  generalize knownA (kindOf op) true [A, B] = ka at *
  generalize kindOf op = kd at *
  unfold valOf
  clear hA hB hl
  rcases hkd with rfl | rfl | rfl
  · rcases hke with rfl | rfl
    · cases ka
      · have HE : Hid (mp = (Vl.zero, 0)) := HMP.out
        clear HMP HRK HTX
        go_enter Tryd.func16, Tryd.ntmps16
        go_upto_region 1 with fail
        try rw [hW1]
        clear hW1
        generalize hq : w.heap.size = q at HT1 ⊢
        have HQ := hide hq
        clear hq
        obtain ⟨a0, a1, a2, a3⟩ := HT1.out.a.cells
        obtain ⟨b0, b1, b2, b3⟩ := HT1.out.b.cells
        go_wp2_with (first
          | (go_at_call 41; refine (HOP.out _).mono ?_; rintro e w' ⟨rfl, hw⟩; have hw := hw.symm; subst hw)
          | (go_at_call 38; refine (HKN.out _).mono ?_; rintro e W2 ⟨rfl, hb2⟩; have HB2 := hide hb2; clear hb2; have HT2 := hide (HT1.out.belowW HB2.out); obtain ⟨a0, a1, a2, a3⟩ := HT2.out.a.cells; obtain ⟨b0, b1, b2, b3⟩ := HT2.out.b.cells)
          | (refine wpList_store_val rfl (.tmp 6) (.tmp 30) rfl rfl (q + 2) Vl.zero Vl.zero rfl rfl HT2.out.r ?_))
        refine bodyPost_ret (v := telling (Vl.zero) (0)) (results_ct Tryd.results16 _ _ (q + 2) 23 _ (0, 0) _ rfl (Box.after HT2.out.r (Vl.zero)) Tryd.underlying23 rfl Tryd.size23) rfl ?_
        rw [HE.out]
        exact ⟨rfl, below_setRow (thenW HB1.out HB2.out) (by rw [HQ.out]; omega) _⟩
      · have HE : Hid (mp = (rckV op A.n B.n, rckE op A.n B.n)) := HMP.out
        have HRC := hide (HRK.out rfl)
        clear HMP HRK HTX
        generalize rckV op A.n B.n = V at *
        generalize rckE op A.n B.n = er at *
        go_enter Tryd.func16, Tryd.ntmps16
        go_upto_region 1 with fail
        try rw [hW1]
        clear hW1
        generalize hq : w.heap.size = q at HT1 ⊢
        have HQ := hide hq
        clear hq
        obtain ⟨a0, a1, a2, a3⟩ := HT1.out.a.cells
        obtain ⟨b0, b1, b2, b3⟩ := HT1.out.b.cells
        go_wp2_with (first
          | (go_at_call 41; refine (HOP.out _).mono ?_; rintro e w' ⟨rfl, hw⟩; have hw := hw.symm; subst hw)
          | (go_at_call 38; refine (HKN.out _).mono ?_; rintro e W2 ⟨rfl, hb2⟩; have HB2 := hide hb2; clear hb2; have HT2 := hide (HT1.out.belowW HB2.out); obtain ⟨a0, a1, a2, a3⟩ := HT2.out.a.cells; obtain ⟨b0, b1, b2, b3⟩ := HT2.out.b.cells)
          | (go_at_call 43; refine (HRC.out _).mono ?_; rintro e W3 ⟨rfl, hb3⟩; have HB3 := hide hb3; clear hb3; have HT3 := hide (HT2.out.belowW HB3.out))
          | (refine wpList_store_val rfl (.tmp 6) (.tmp 46) rfl rfl (q + 2) Vl.zero V rfl rfl HT3.out.r ?_))
        refine bodyPost_ret (v := telling (V) (er)) (results_ct Tryd.results16 _ _ (q + 2) 23 _ (0, 0) _ rfl (Box.after HT3.out.r (V)) Tryd.underlying23 rfl Tryd.size23) rfl ?_
        rw [HE.out]
        exact ⟨rfl, below_setRow (thenW (thenW HB1.out HB2.out) HB3.out) (by rw [HQ.out]; omega) _⟩
    · have HE : Hid (mp = (Vl.zero, 160)) := HMP.out
      clear HMP HRK HTX
      go_enter Tryd.func16, Tryd.ntmps16
      go_upto_region 1 with fail
      try rw [hW1]
      clear hW1
      generalize hq : w.heap.size = q at HT1 ⊢
      have HQ := hide hq
      clear hq
      obtain ⟨a0, a1, a2, a3⟩ := HT1.out.a.cells
      obtain ⟨b0, b1, b2, b3⟩ := HT1.out.b.cells
      go_wp2_with (first
        | (go_at_call 41; refine (HOP.out _).mono ?_; rintro e w' ⟨rfl, hw⟩; have hw := hw.symm; subst hw)
        | (go_at_call 38; refine (HKN.out _).mono ?_; rintro e W2 ⟨rfl, hb2⟩; have HB2 := hide hb2; clear hb2; have HT2 := hide (HT1.out.belowW HB2.out); obtain ⟨a0, a1, a2, a3⟩ := HT2.out.a.cells; obtain ⟨b0, b1, b2, b3⟩ := HT2.out.b.cells)
        | (refine wpList_store_val rfl (.tmp 6) (.tmp 30) rfl rfl (q + 2) Vl.zero Vl.zero rfl rfl HT2.out.r ?_))
      refine bodyPost_ret (v := telling (Vl.zero) (160)) (results_ct Tryd.results16 _ _ (q + 2) 23 _ (0, 0) _ rfl (Box.after HT2.out.r (Vl.zero)) Tryd.underlying23 rfl Tryd.size23) rfl ?_
      rw [HE.out]
      exact ⟨rfl, below_setRow (thenW HB1.out HB2.out) (by rw [HQ.out]; omega) _⟩
  · rcases hke with rfl | rfl
    · cases ka
      · have HE : Hid (mp = (Vl.zero, 0)) := HMP.out
        clear HMP HRK HTX
        go_enter Tryd.func16, Tryd.ntmps16
        go_upto_region 1 with fail
        try rw [hW1]
        clear hW1
        generalize hq : w.heap.size = q at HT1 ⊢
        have HQ := hide hq
        clear hq
        obtain ⟨a0, a1, a2, a3⟩ := HT1.out.a.cells
        obtain ⟨b0, b1, b2, b3⟩ := HT1.out.b.cells
        go_wp2_with (first
          | (go_at_call 41; refine (HOP.out _).mono ?_; rintro e w' ⟨rfl, hw⟩; have hw := hw.symm; subst hw)
          | (go_at_call 38; refine (HKN.out _).mono ?_; rintro e W2 ⟨rfl, hb2⟩; have HB2 := hide hb2; clear hb2; have HT2 := hide (HT1.out.belowW HB2.out); obtain ⟨a0, a1, a2, a3⟩ := HT2.out.a.cells; obtain ⟨b0, b1, b2, b3⟩ := HT2.out.b.cells)
          | (refine wpList_store_val rfl (.tmp 6) (.tmp 30) rfl rfl (q + 2) Vl.zero Vl.zero rfl rfl HT2.out.r ?_))
        refine bodyPost_ret (v := telling (Vl.zero) (0)) (results_ct Tryd.results16 _ _ (q + 2) 23 _ (0, 0) _ rfl (Box.after HT2.out.r (Vl.zero)) Tryd.underlying23 rfl Tryd.size23) rfl ?_
        rw [HE.out]
        exact ⟨rfl, below_setRow (thenW HB1.out HB2.out) (by rw [HQ.out]; omega) _⟩
      · have HE : Hid (mp = (tV (A.t ++ B.t), 0)) := HMP.out
        clear HMP HRK
        go_enter Tryd.func16, Tryd.ntmps16
        go_upto_region 1 with fail
        try rw [hW1]
        clear hW1
        generalize hq : w.heap.size = q at HT1 ⊢
        have HQ := hide hq
        clear hq
        obtain ⟨a0, a1, a2, a3⟩ := HT1.out.a.cells
        obtain ⟨b0, b1, b2, b3⟩ := HT1.out.b.cells
        go_wp2_with (first
          | (go_at_call 41; refine (HOP.out _).mono ?_; rintro e w' ⟨rfl, hw⟩; have hw := hw.symm; subst hw)
          | (go_at_call 38; refine (HKN.out _).mono ?_; rintro e W2 ⟨rfl, hb2⟩; have HB2 := hide hb2; clear hb2; have HT2 := hide (HT1.out.belowW HB2.out); obtain ⟨a0, a1, a2, a3⟩ := HT2.out.a.cells; obtain ⟨b0, b1, b2, b3⟩ := HT2.out.b.cells)
          | (go_at_call 42; refine (HTX.out _).mono ?_; rintro e W3 ⟨rfl, hb3⟩; have HB3 := hide hb3; clear hb3; have HT3 := hide (HT2.out.belowW HB3.out))
          | (refine wpList_store_val rfl (.tmp 6) (.tmp 39) rfl rfl (q + 2) Vl.zero (tV (A.t ++ B.t)) rfl rfl HT3.out.r ?_))
        refine bodyPost_ret (v := telling (tV (A.t ++ B.t)) (0)) (results_ct Tryd.results16 _ _ (q + 2) 23 _ (0, 0) _ rfl (Box.after HT3.out.r (tV (A.t ++ B.t))) Tryd.underlying23 rfl Tryd.size23) rfl ?_
        rw [HE.out]
        exact ⟨rfl, below_setRow (thenW (thenW HB1.out HB2.out) HB3.out) (by rw [HQ.out]; omega) _⟩
    · have HE : Hid (mp = (Vl.zero, 160)) := HMP.out
      clear HMP HRK HTX
      go_enter Tryd.func16, Tryd.ntmps16
      go_upto_region 1 with fail
      try rw [hW1]
      clear hW1
      generalize hq : w.heap.size = q at HT1 ⊢
      have HQ := hide hq
      clear hq
      obtain ⟨a0, a1, a2, a3⟩ := HT1.out.a.cells
      obtain ⟨b0, b1, b2, b3⟩ := HT1.out.b.cells
      go_wp2_with (first
        | (go_at_call 41; refine (HOP.out _).mono ?_; rintro e w' ⟨rfl, hw⟩; have hw := hw.symm; subst hw)
        | (go_at_call 38; refine (HKN.out _).mono ?_; rintro e W2 ⟨rfl, hb2⟩; have HB2 := hide hb2; clear hb2; have HT2 := hide (HT1.out.belowW HB2.out); obtain ⟨a0, a1, a2, a3⟩ := HT2.out.a.cells; obtain ⟨b0, b1, b2, b3⟩ := HT2.out.b.cells)
        | (refine wpList_store_val rfl (.tmp 6) (.tmp 30) rfl rfl (q + 2) Vl.zero Vl.zero rfl rfl HT2.out.r ?_))
      refine bodyPost_ret (v := telling (Vl.zero) (160)) (results_ct Tryd.results16 _ _ (q + 2) 23 _ (0, 0) _ rfl (Box.after HT2.out.r (Vl.zero)) Tryd.underlying23 rfl Tryd.size23) rfl ?_
      rw [HE.out]
      exact ⟨rfl, below_setRow (thenW HB1.out HB2.out) (by rw [HQ.out]; omega) _⟩
  · have HE : Hid (mp = (Vl.zero, 1)) := HMP.out
    clear HMP HRK HTX
    go_enter Tryd.func16, Tryd.ntmps16
    go_upto_region 1 with fail
    try rw [hW1]
    clear hW1
    generalize hq : w.heap.size = q at HT1 ⊢
    have HQ := hide hq
    clear hq
    go_wp2_with (first
      | (go_at_call 41; refine (HOP.out _).mono ?_; rintro e w' ⟨rfl, hw⟩; have hw := hw.symm; subst hw)
      | (refine wpList_store_val rfl (.tmp 6) (.tmp 15) rfl rfl (q + 2) Vl.zero Vl.zero rfl rfl HT1.out.r ?_))
    refine bodyPost_ret (v := telling (Vl.zero) (1)) (results_ct Tryd.results16 _ _ (q + 2) 23 _ (0, 0) _ rfl (Box.after HT1.out.r (Vl.zero)) Tryd.underlying23 rfl Tryd.size23) rfl ?_
    rw [HE.out]
    exact ⟨rfl, below_setRow (HB1.out) (by rw [HQ.out]; omega) _⟩
end Go.Proofs.YtigafjdacllohaaDoor
