/- How values stand: cmp.Compare, key.Compare, the document's; clean. -/
import Derived.Test.YtigafjdacllohaaDoorEnc
namespace Go.Proofs.YtigafjdacllohaaDoor
open Go.RowKit
set_option linter.unusedVariables false
set_option linter.unusedSimpArgs false

theorem strOf_toList (s : List UInt8) : (strOf s).toList = s := by
  rw [ByteArray.toList_eq]
  rfl
set_option maxHeartbeats 400000 in
theorem nan3 (x : Int) (w : World) : Calls Tryd.prog 81 #[.int .i64 x] w fun e w' => e = .returned (.bool false) ∧ w' = w := by
  go_enter Tryd.func81, Tryd.ntmps81
  go_wp2
  go_ret
  simp
set_option maxHeartbeats 400000 in
theorem nan9 (x : ByteArray) (w : World) : Calls Tryd.prog 82 #[.string x] w fun e w' => e = .returned (.bool false) ∧ w' = w := by
  go_enter Tryd.func82, Tryd.ntmps82
  go_wp2
  go_ret
  simp
set_option maxHeartbeats 400000 in
theorem nan5 (x : Int) (w : World) : Calls Tryd.prog 83 #[.int .u8 x] w fun e w' => e = .returned (.bool false) ∧ w' = w := by
  go_enter Tryd.func83, Tryd.ntmps83
  go_wp2
  go_ret
  simp
set_option maxHeartbeats 1000000 in
theorem cmp3 (x y : Int) (w : World) : Calls Tryd.prog 64 #[.int .i64 x, .int .i64 y] w fun e w' => e = .returned (.int .i64 (cmpI x y)) ∧ w' = w := by
  have HN : Hid (∀ x w, Calls Tryd.prog 81 #[.int .i64 x] w fun e w' => e = .returned (.bool false) ∧ w' = w) := nan3
  have HC := hide (cmpI_cases x y)
  generalize cmpI x y = c at *
  go_enter Tryd.func64, Tryd.ntmps64
  go_upto_region 9 with (go_at_call 81; refine (HN.out _ _).mono ?_; rintro e w' ⟨rfl, hw⟩; have hw := hw.symm; subst hw)
  rcases HC.out with ⟨h, k⟩ | ⟨h, k⟩ | ⟨h, k⟩
  · subst k
    go_wp2
    go_ret
    exact ⟨rfl, rfl⟩
  · subst k
    have h1 : ¬ x < y := by omega
    have h2 : ¬ y < x := by omega
    clear h
    go_wp2
    go_ret
    exact ⟨rfl, rfl⟩
  · subst k
    have h1 : ¬ x < y := by omega
    go_wp2
    go_ret
    exact ⟨rfl, rfl⟩
set_option maxHeartbeats 1000000 in
theorem cmp5 (x y : Int) (w : World) : Calls Tryd.prog 66 #[.int .u8 x, .int .u8 y] w fun e w' => e = .returned (.int .i64 (cmpI x y)) ∧ w' = w := by
  have HN : Hid (∀ x w, Calls Tryd.prog 83 #[.int .u8 x] w fun e w' => e = .returned (.bool false) ∧ w' = w) := nan5
  have HC := hide (cmpI_cases x y)
  generalize cmpI x y = c at *
  go_enter Tryd.func66, Tryd.ntmps66
  go_upto_region 9 with (go_at_call 83; refine (HN.out _ _).mono ?_; rintro e w' ⟨rfl, hw⟩; have hw := hw.symm; subst hw)
  rcases HC.out with ⟨h, k⟩ | ⟨h, k⟩ | ⟨h, k⟩
  · subst k
    go_wp2
    go_ret
    exact ⟨rfl, rfl⟩
  · subst k
    have h1 : ¬ x < y := by omega
    have h2 : ¬ y < x := by omega
    clear h
    go_wp2
    go_ret
    exact ⟨rfl, rfl⟩
  · subst k
    have h1 : ¬ x < y := by omega
    go_wp2
    go_ret
    exact ⟨rfl, rfl⟩
theorem cmpS_cases (x y : List UInt8) : (Op.bytesLess x y = true ∧ (x == y) = false ∧ cmpS x y = -1) ∨ (Op.bytesLess x y = false ∧ (x == y) = true ∧ cmpS x y = 0) ∨ (Op.bytesLess x y = false ∧ (x == y) = false ∧ cmpS x y = 1) := by
  unfold cmpS
  cases h : Op.bytesLess x y with
  | true => left; refine ⟨rfl, beq_eq_false_iff_ne.2 fun e => ?_, by simp⟩; rw [e, less_irrefl] at h; cases h
  | false =>
    by_cases e : x = y
    · right; left; exact ⟨rfl, beq_iff_eq.2 e, by simp [e]⟩
    · right; right; exact ⟨rfl, beq_eq_false_iff_ne.2 e, by simp [e]⟩
set_option maxHeartbeats 1000000 in
theorem cmp9 (x y : List UInt8) (w : World) : Calls Tryd.prog 65 #[.string (strOf x), .string (strOf y)] w fun e w' => e = .returned (.int .i64 (cmpS x y)) ∧ w' = w := by
  have HN : Hid (∀ x w, Calls Tryd.prog 82 #[.string x] w fun e w' => e = .returned (.bool false) ∧ w' = w) := nan9
  have HC := hide (cmpS_cases x y)
  have e1 := strOf_toList x
  have e2 := strOf_toList y
  generalize cmpS x y = c at *
  generalize strOf x = sx at *
  generalize strOf y = sy at *
  go_enter Tryd.func65, Tryd.ntmps65
  go_upto_region 9 with (go_at_call 82; refine (HN.out _ _).mono ?_; rintro e w' ⟨rfl, hw⟩; have hw := hw.symm; subst hw)
  rcases HC.out with ⟨h, h', k⟩ | ⟨h, h', k⟩ | ⟨h, h', k⟩
  · subst k
    go_wp2
    go_ret
    exact ⟨rfl, rfl⟩
  · subst k
    go_wp2
    go_ret
    exact ⟨rfl, rfl⟩
  · subst k
    go_wp2
    go_ret
    exact ⟨rfl, rfl⟩
set_option maxHeartbeats 400000 in
theorem rcmp (a b : Bool) (w : World) : Calls Tryd.prog 77 #[.bool a, .bool b] w fun e w' => e = .returned (.int .i64 (if b then 0 else if a then -1 else 1)) ∧ w' = w := by
  cases a <;> cases b
  all_goals
    go_enter Tryd.func77, Tryd.ntmps77
    go_wp2
    go_ret
    exact ⟨rfl, rfl⟩
theorem two_boxes (w : World) (A B : Vl) : Box ((w.alloc (.cells #[.int .i64 A.ty, .int .i64 A.n, .string (strOf A.t), .bool A.b] 23)).alloc (.cells #[.int .i64 B.ty, .int .i64 B.n, .string (strOf B.t), .bool B.b] 23)) w.heap.size A ∧ Box ((w.alloc (.cells #[.int .i64 A.ty, .int .i64 A.n, .string (strOf A.t), .bool A.b] 23)).alloc (.cells #[.int .i64 B.ty, .int .i64 B.n, .string (strOf B.t), .bool B.b] 23)) (w.heap.size + 1) B ∧ Below w.heap.size w ((w.alloc (.cells #[.int .i64 A.ty, .int .i64 A.n, .string (strOf A.t), .bool A.b] 23)).alloc (.cells #[.int .i64 B.ty, .int .i64 B.n, .string (strOf B.t), .bool B.b] 23)) := by
  refine ⟨(box_new w A).belowW ((Below.refl _ _).alloc (Nat.le_refl _) _), ?_, ((Below.refl _ w).alloc (Nat.le_refl _) _).alloc (by simp) _⟩
  have := box_new (w.alloc (.cells #[.int .i64 A.ty, .int .i64 A.n, .string (strOf A.t), .bool A.b] 23)) B
  rwa [show (w.alloc (.cells #[.int .i64 A.ty, .int .i64 A.n, .string (strOf A.t), .bool A.b] 23)).heap.size = w.heap.size + 1 by simp] at this
set_option maxHeartbeats 4000000 in
theorem compare_any (A B : Vl) (w : World) : Calls Tryd.prog 37 #[valOf A, valOf B] w fun e w' => e = .returned (.int .i64 (cmpV A B)) ∧ Below w.heap.size w w' := by
  obtain ⟨HXA, HXB, hbw⟩ := two_boxes w A B
  have H3 : Hid (∀ x y w, Calls Tryd.prog 64 #[.int .i64 x, .int .i64 y] w fun e w' => e = .returned (.int .i64 (cmpI x y)) ∧ w' = w) := cmp3
  have H9 : Hid (∀ x y w, Calls Tryd.prog 65 #[.string (strOf x), .string (strOf y)] w fun e w' => e = .returned (.int .i64 (cmpS x y)) ∧ w' = w) := cmp9
  have H26 : Hid (∀ b w, Calls Tryd.prog 67 #[.bool b] w fun e w' => e = .returned (.int .u8 ((bitB b).toNat : Int)) ∧ w' = w) := bit_any
  have H5 : Hid (∀ x y w, Calls Tryd.prog 66 #[.int .u8 x, .int .u8 y] w fun e w' => e = .returned (.int .i64 (cmpI x y)) ∧ w' = w) := cmp5
  obtain ⟨a0, a1, a2, a3⟩ := HXA.cells
  obtain ⟨b0, b1, b2, b3⟩ := HXB.cells
  have HBW := hide hbw
  clear HXA HXB hbw
  unfold valOf
  obtain ⟨W1, hW1⟩ : ∃ W1, (w.alloc (.cells #[.int .i64 A.ty, .int .i64 A.n, .string (strOf A.t), .bool A.b] 23)).alloc (.cells #[.int .i64 B.ty, .int .i64 B.n, .string (strOf B.t), .bool B.b] 23) = W1 := ⟨_, rfl⟩
  rw [hW1] at a0 a1 a2 a3 b0 b1 b2 b3 HBW
  go_enter Tryd.func37, Tryd.ntmps37
  go_upto_region 1 with fail
  try rw [hW1]
  clear hW1
  generalize w.heap.size + 1 = q at b0 b1 b2 b3 ⊢
  generalize w.heap.size = p at a0 a1 a2 a3 ⊢
  by_cases ht : A.ty = B.ty
  · have hd : (A.ty != B.ty) = false := by simp [ht]
    by_cases h1 : A.ty = 1
    · have HE : Hid (cmpV A B = cmpI A.n B.n) := by unfold Hid cmpV; rw [if_neg (by simpa using ht), if_pos h1]
      rw [← ht] at b0
      rw [h1] at a0 b0
      clear ht hd
      go_wp2_with (go_at_call 64; refine (H3.out _ _ _).mono ?_; rintro e w' ⟨rfl, hw⟩; have hw := hw.symm; subst hw)
      go_ret
      rw [HE.out]
      exact ⟨rfl, HBW.out⟩
    · by_cases h2 : A.ty = 2
      · have HE : Hid (cmpV A B = cmpS A.t B.t) := by unfold Hid cmpV; rw [if_neg (by simpa using ht), if_neg h1, if_pos h2]
        rw [← ht] at b0
        rw [h2] at a0 b0
        clear ht hd
        go_wp2_with (go_at_call 65; refine (H9.out _ _ _).mono ?_; rintro e w' ⟨rfl, hw⟩; have hw := hw.symm; subst hw)
        go_ret
        rw [HE.out]
        exact ⟨rfl, HBW.out⟩
      · by_cases h3 : A.ty = 3
        · have HE : Hid (cmpV A B = cmpI ((bitB A.b).toNat : Int) ((bitB B.b).toNat : Int)) := by
            unfold Hid cmpV
            rw [if_neg (by simpa using ht), if_neg h1, if_neg h2, if_pos h3]
            cases A.b <;> cases B.b <;> rfl
          rw [← ht] at b0
          rw [h3] at a0 b0
          clear ht hd
          go_upto_region 9 with fail
          go_quiet (first | (go_at_call 67; exact Calls.quiet_of_same (H26.out _ _)) | (go_at_call 66; exact Calls.quiet_of_same (H5.out _ _ _)))
          go_wp2
          go_ret
          rw [HE.out]
          exact ⟨rfl, HBW.out.trans (below_drewN _ _ _)⟩
        · have HE : Hid (cmpV A B = 0) := by unfold Hid cmpV; rw [if_neg (by simpa using ht), if_neg h1, if_neg h2, if_neg h3]
          have k1 : (A.ty == 1) = false := beq_eq_false_iff_ne.2 h1
          have k2 : (A.ty == 2) = false := beq_eq_false_iff_ne.2 h2
          have k3 : (A.ty == 3) = false := beq_eq_false_iff_ne.2 h3
          rw [← ht] at b0
          clear ht hd
          go_wp2
          go_ret
          rw [HE.out]
          exact ⟨rfl, HBW.out⟩
  · have hd : (A.ty != B.ty) = true := by simpa using ht
    have HE : Hid (cmpV A B = cmpI A.ty B.ty) := by unfold Hid cmpV; rw [if_pos ht]
    go_wp2_with (go_at_call 64; refine (H3.out _ _ _).mono ?_; rintro e w' ⟨rfl, hw⟩; have hw := hw.symm; subst hw)
    go_ret
    rw [HE.out]
    exact ⟨rfl, HBW.out⟩
set_option maxHeartbeats 4000000 in
theorem rcompare_any (A B : Vl) (w : World) : Calls Tryd.prog 52 #[valOf A, valOf B] w fun e w' => e = .returned (.int .i64 (cmpV A B)) ∧ Below w.heap.size w w' := by
  obtain ⟨HXA, HXB, hbw⟩ := two_boxes w A B
  have H27 : Hid (∀ a b w, Calls Tryd.prog 77 #[.bool a, .bool b] w fun e w' => e = .returned (.int .i64 (if b then 0 else if a then -1 else 1)) ∧ w' = w) := rcmp
  obtain ⟨a0, a1, a2, a3⟩ := HXA.cells
  obtain ⟨b0, b1, b2, b3⟩ := HXB.cells
  have HBW := hide hbw
  clear HXA HXB hbw
  unfold valOf
  obtain ⟨W1, hW1⟩ : ∃ W1, (w.alloc (.cells #[.int .i64 A.ty, .int .i64 A.n, .string (strOf A.t), .bool A.b] 23)).alloc (.cells #[.int .i64 B.ty, .int .i64 B.n, .string (strOf B.t), .bool B.b] 23) = W1 := ⟨_, rfl⟩
  rw [hW1] at a0 a1 a2 a3 b0 b1 b2 b3 HBW
  have HSC : Hid (cmpV A B = if A.ty ≠ B.ty then cmpI A.ty B.ty else if A.ty = 1 then cmpI A.n B.n else if A.ty = 2 then cmpS A.t B.t else if A.ty = 3 then cmpI (bitI A.b) (bitI B.b) else 0) := rfl
  go_enter Tryd.func52, Tryd.ntmps52
  go_upto_region 1 with fail
  try rw [hW1]
  clear hW1
  generalize w.heap.size + 1 = q at b0 b1 b2 b3 ⊢
  generalize w.heap.size = p at a0 a1 a2 a3 ⊢
  by_cases ht : A.ty = B.ty
  · have hd : (A.ty != B.ty) = false := by simp [ht]
    by_cases h1 : A.ty = 1
    · have HE : Hid (cmpV A B = cmpI A.n B.n) := by unfold Hid cmpV; rw [if_neg (by simpa using ht), if_pos h1]
      rw [← ht] at b0
      rw [h1] at a0 b0
      clear ht hd
      rcases cmpI_cases A.n B.n with ⟨h, k⟩ | ⟨h, k⟩ | ⟨h, k⟩
      · have d1 : decide (A.n < B.n) = true := decide_eq_true h
        have d2 : (A.n == B.n) = false := beq_eq_false_iff_ne.2 (by omega)
        clear h
        go_wp2_with (go_at_call 77; refine (H27.out _ _ _).mono ?_; rintro e w' ⟨rfl, hw⟩; have hw := hw.symm; subst hw)
        go_ret
        rw [HE.out, k]
        exact ⟨rfl, HBW.out⟩
      · have d1 : decide (A.n < B.n) = false := decide_eq_false (by omega)
        have d2 : (A.n == B.n) = true := beq_iff_eq.2 h
        clear h
        go_wp2_with (go_at_call 77; refine (H27.out _ _ _).mono ?_; rintro e w' ⟨rfl, hw⟩; have hw := hw.symm; subst hw)
        go_ret
        rw [HE.out, k]
        exact ⟨rfl, HBW.out⟩
      · have d1 : decide (A.n < B.n) = false := decide_eq_false (by omega)
        have d2 : (A.n == B.n) = false := beq_eq_false_iff_ne.2 (by omega)
        clear h
        go_wp2_with (go_at_call 77; refine (H27.out _ _ _).mono ?_; rintro e w' ⟨rfl, hw⟩; have hw := hw.symm; subst hw)
        go_ret
        rw [HE.out, k]
        exact ⟨rfl, HBW.out⟩
    · by_cases h2 : A.ty = 2
      · have HE : Hid (cmpV A B = cmpS A.t B.t) := by unfold Hid cmpV; rw [if_neg (by simpa using ht), if_neg h1, if_pos h2]
        rw [← ht] at b0
        rw [h2] at a0 b0
        clear ht hd
        have e1 := strOf_toList A.t
        have e2 := strOf_toList B.t
        generalize strOf A.t = sx at *
        generalize strOf B.t = sy at *
        rcases cmpS_cases A.t B.t with ⟨d1, d2, k⟩ | ⟨d1, d2, k⟩ | ⟨d1, d2, k⟩
        · skip
          go_wp2_with (go_at_call 77; refine (H27.out _ _ _).mono ?_; rintro e w' ⟨rfl, hw⟩; have hw := hw.symm; subst hw)
          go_ret
          rw [HE.out, k]
          exact ⟨rfl, HBW.out⟩
        · skip
          go_wp2_with (go_at_call 77; refine (H27.out _ _ _).mono ?_; rintro e w' ⟨rfl, hw⟩; have hw := hw.symm; subst hw)
          go_ret
          rw [HE.out, k]
          exact ⟨rfl, HBW.out⟩
        · skip
          go_wp2_with (go_at_call 77; refine (H27.out _ _ _).mono ?_; rintro e w' ⟨rfl, hw⟩; have hw := hw.symm; subst hw)
          go_ret
          rw [HE.out, k]
          exact ⟨rfl, HBW.out⟩
      · by_cases h3 : A.ty = 3
        · have HE : Hid (cmpV A B = if (A.b == B.b) = true then 0 else if (!A.b) = true then -1 else 1) := by
            unfold Hid cmpV
            rw [if_neg (by simpa using ht), if_neg h1, if_neg h2, if_pos h3]
            cases A.b <;> cases B.b <;> rfl
          rw [← ht] at b0
          rw [h3] at a0 b0
          clear ht hd
          generalize A.b = ab at *
          generalize B.b = bb at *
          cases ab <;> cases bb
          · skip
            go_wp2_with (go_at_call 77; refine (H27.out _ _ _).mono ?_; rintro e w' ⟨rfl, hw⟩; have hw := hw.symm; subst hw)
            go_ret
            rw [HE.out]
            exact ⟨rfl, HBW.out⟩
          · skip
            go_wp2_with (go_at_call 77; refine (H27.out _ _ _).mono ?_; rintro e w' ⟨rfl, hw⟩; have hw := hw.symm; subst hw)
            go_ret
            rw [HE.out]
            exact ⟨rfl, HBW.out⟩
          · skip
            go_wp2_with (go_at_call 77; refine (H27.out _ _ _).mono ?_; rintro e w' ⟨rfl, hw⟩; have hw := hw.symm; subst hw)
            go_ret
            rw [HE.out]
            exact ⟨rfl, HBW.out⟩
          · skip
            go_wp2_with (go_at_call 77; refine (H27.out _ _ _).mono ?_; rintro e w' ⟨rfl, hw⟩; have hw := hw.symm; subst hw)
            go_ret
            rw [HE.out]
            exact ⟨rfl, HBW.out⟩
        · have HE : Hid (cmpV A B = 0) := by unfold Hid cmpV; rw [if_neg (by simpa using ht), if_neg h1, if_neg h2, if_neg h3]
          have k1 : (A.ty == 1) = false := beq_eq_false_iff_ne.2 h1
          have k2 : (A.ty == 2) = false := beq_eq_false_iff_ne.2 h2
          have k3 : (A.ty == 3) = false := beq_eq_false_iff_ne.2 h3
          rw [← ht] at b0
          clear ht hd
          go_wp2
          go_ret
          rw [HE.out]
          exact ⟨rfl, HBW.out⟩
  · have hd : (A.ty != B.ty) = true := by simpa using ht
    have HE : Hid (cmpV A B = cmpI A.ty B.ty) := by unfold Hid cmpV; rw [if_pos ht]
    rcases cmpI_cases A.ty B.ty with ⟨h, k⟩ | ⟨h, k⟩ | ⟨h, k⟩
    · have d1 : decide (A.ty < B.ty) = true := decide_eq_true h
      clear h
      go_wp2_with (go_at_call 77; refine (H27.out _ _ _).mono ?_; rintro e w' ⟨rfl, hw⟩; have hw := hw.symm; subst hw)
      go_ret
      rw [HE.out, k]
      exact ⟨rfl, HBW.out⟩
    · exact absurd h ht
    · have d1 : decide (A.ty < B.ty) = false := decide_eq_false (by omega)
      clear h
      go_wp2_with (go_at_call 77; refine (H27.out _ _ _).mono ?_; rintro e w' ⟨rfl, hw⟩; have hw := hw.symm; subst hw)
      go_ret
      rw [HE.out, k]
      exact ⟨rfl, HBW.out⟩
theorem new2 (w : World) (o o' : Obj) : ((w.alloc o).alloc o').heap[w.heap.size + 1]? = some o' := by
  have := heap_alloc_new (w.alloc o) o'
  rwa [show (w.alloc o).heap.size = w.heap.size + 1 by simp] at this
theorem Tryd.size23 : (Tryd.prog.info? 23).map (·.size) = some 4 := by kernel_rfl
end Go.Proofs.YtigafjdacllohaaDoor
