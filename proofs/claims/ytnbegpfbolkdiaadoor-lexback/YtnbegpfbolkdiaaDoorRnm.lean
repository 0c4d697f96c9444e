/- The document's number. -/
import Derived.Test.YtnbegpfbolkdiaaDoorRwd
namespace Go.Proofs.YtnbegpfbolkdiaaDoor
set_option maxRecDepth 100000
open Go.RowKit
set_option linter.unusedVariables false
set_option linter.unusedSimpArgs false

/-- What the document's reader of a token tells. -/
def RefE (l : List UInt8) (i : Nat) (o : Ending) : Prop :=
  match tokAt l i with
  | some (t, e) => o = .returned (.tuple #[tokV t, .int .i64 (e : Int), .bool true])
  | none => ∃ (k : Int) (x : ByteArray) (n p e : Int), o = .returned (.tuple #[.agg #[.int .i64 k, .string x, .int .i64 n, .int .i64 p], .int .i64 e, .bool false])
theorem decV_snoc (l : List UInt8) (c : UInt8) : decV (l ++ [c]) = 10 * decV l + (c.toNat - 48) := by simp [decV]
theorem decV_lt (l : List UInt8) (h : ∀ c ∈ l, isD c = true) : decV l < 10 ^ l.length := by
  have key : ∀ (l : List UInt8) (a : Nat), (∀ c ∈ l, isD c = true) → l.foldl (fun n c => 10 * n + (c.toNat - 48)) a < (a + 1) * 10 ^ l.length := by
    intro l
    induction l with
    | nil => intro a _; simp
    | cons c r ih =>
      intro a h
      have hc := h c (by simp)
      simp only [isD, Bool.and_eq_true, decide_eq_true_eq] at hc
      have := ih (10 * a + (c.toNat - 48)) (fun c hc => h c (by simp [hc]))
      rw [List.foldl_cons, List.length_cons, Nat.pow_succ]
      refine Nat.lt_of_lt_of_le this ?_
      rw [show (a + 1) * (10 ^ r.length * 10) = ((a + 1) * 10) * 10 ^ r.length by rw [Nat.mul_comm (10 ^ r.length) 10, Nat.mul_assoc]]
      exact Nat.mul_le_mul_right _ (by omega)
  have := key l 0 h
  simpa [decV] using this
theorem tok_number {l : List UInt8} {i : Nat} (hi : i < l.length) (h5 : kdAt l i = 5) :
    tokAt l i = if kdAt l (runTo dg l i) = 4 then none else if runTo dg l i - i ≤ 19 ∧ decV (seg l i (runTo dg l i)) < 9223372036854775808 then some (⟨2, [], decV (seg l i (runTo dg l i)), i⟩, runTo dg l i) else none := by
  have e : runTo dg l (i + 1) = runTo dg l i := (runTo_in (by simp [h5, dg]) (by omega)).symm
  have hs : strF l i = if kdAt l (runTo dg l i) = 4 then (0, 0) else (2, runTo dg l i) := by
    unfold strF
    rw [if_neg (by omega), if_pos h5, e]
  unfold tokAt
  rw [hs]
  by_cases h4 : kdAt l (runTo dg l i) = 4
  · rw [if_pos h4, if_pos h4]; rfl
  · rw [if_neg h4, if_neg h4]; rfl
theorem Tryd.results21 : Tryd.f21.results = #[.cell 4 29, .tmp 5, .tmp 6] := by kernel_rfl
set_option maxHeartbeats 4000000 in
theorem refNumber_any (s : ByteArray) (i0 : Nat) (w : World) (hi : i0 < s.size) (hs : s.size ≤ 4096) (h5 : kdAt s.data.toList i0 = 5) :
    Calls Tryd.prog 21 #[.string s, .int .i64 (i0 : Int)] w fun o w' => RefE s.data.toList i0 o ∧ Below w.heap.size w w' := by
  have hlen : s.data.toList.length = s.size := (Lib.size_eq s).symm
  have hT := tok_number (l := s.data.toList) (i := i0) (by omega) h5
  obtain ⟨E, hE⟩ : ∃ E, runTo dg s.data.toList i0 = E := ⟨_, rfl⟩
  have hEle : E ≤ s.size := by rw [← hE, ← hlen]; exact runTo_le (by omega)
  have hdig : ∀ c ∈ seg s.data.toList i0 E, isD c = true := fun c hc => by
    rw [← hE, runTo_in (by simp [h5, dg]) (by omega)] at hc
    exact digit_is c (seg_run (by omega) (by simp [h5, dg]) c hc)
  rw [hE] at hT
  have HLEN := hide hlen
  have HT := hide hT
  have HDIG := hide hdig
  clear hlen hT hdig h5
  obtain ⟨N, hN⟩ : ∃ N, w.heap.size = N := ⟨_, rfl⟩
  go_enter Tryd.func21, Tryd.ntmps21
  go_wp2
  have HW1 : Hid (Below N w (w.alloc (.cells #[.int .i64 0, .string ⟨#[]⟩, .int .i64 0, .int .i64 0] 29))) := by rw [← hN]; exact (Below.refl _ _).alloc (Nat.le_refl _) _
  have HBX : Hid ((w.alloc (.cells #[.int .i64 0, .string ⟨#[]⟩, .int .i64 0, .int .i64 0] 29)).heap[N]? = some (.cells #[.int .i64 0, .string ⟨#[]⟩, .int .i64 0, .int .i64 0] 29 (0, 0))) := by rw [← hN]; exact heap_alloc_new w _
  obtain ⟨w1, hw1⟩ : ∃ w1, w.alloc (.cells #[.int .i64 0, .string ⟨#[]⟩, .int .i64 0, .int .i64 0] 29) = w1 := ⟨_, rfl⟩
  rw [hw1] at HW1 HBX ⊢
  clear hw1
  have hbox := HBX.out
  have c0 := cell_row (o := 0) hbox
  have c1 := cell_row (o := 1) hbox
  have c2 := cell_row (o := 2) hbox
  have c3 := cell_row (o := 3) hbox
  have f0 : ∀ k, w1.frozen? ⟨N, k, none⟩ = false := fun k => frozen_row hbox
  simp only [List.getElem?_toArray, List.getElem?_cons_zero, List.getElem?_cons_succ] at c0 c1 c2 c3
  clear hbox
  go_loopw [7, 8] (fun z u wr => ∃ (j : Nat) (v : Int), i0 ≤ j ∧ j ≤ E ∧ j - i0 ≤ 20 ∧ z = .int .i64 (j : Int) ∧ u = .int .u64 v ∧ (j - i0 ≤ 19 → v = (decV (seg s.data.toList i0 j) : Int)) ∧ runTo dg s.data.toList j = E ∧ wr = w1) (fun z _ _ => restQ s.size z)
  case atStart => exact ⟨i0, 0, Nat.le_refl _, by rw [← hE]; exact runTo_ge _ _ _, by omega, rfl, rfl, fun _ => by rw [seg_nil]; rfl, hE, rfl⟩
  case round =>
    clear hE
    obtain ⟨j, v, hij, hjE, h20, rfl, rfl, hv, hE, rfl⟩ := hrel
    by_cases hjl : j < s.size
    · have hjl' : (j : Int) < (s.size : Int) := by omega
      obtain ⟨c, hc⟩ : ∃ c : UInt8, s[j] = c := ⟨_, rfl⟩
      have hk : kdAt s.data.toList j = kdB c := by rw [kd_at_byte s j hjl, hc]
      have hkd := kd_all c
      have HD := hide (digit_any c)
      have HL := hide (letter_any c)
      obtain ⟨x, hx⟩ : ∃ x : Int, (c.toNat : Int) = x := ⟨_, rfl⟩
      rw [hx] at HD HL
      have hx0 : 0 ≤ x := by omega
      have hx1 : x < 256 := by have := c.toNat_lt; omega
      by_cases hd : isD c = true
      · have hdx : 48 ≤ x ∧ x ≤ 57 := by
          have := hd
          simp only [isD, Bool.and_eq_true, decide_eq_true_eq] at this
          omega
        have HE2 : Hid (runTo dg s.data.toList (j + 1) = E) := by
          rw [Hid, ← runTo_in (by rw [hk, hkd.2.1.1 hd]; rfl) (by rw [hk]; exact kdB_ne1 _)]; exact hE
        have hjE2 : j + 1 ≤ E := by have := runTo_ge dg s.data.toList (j + 1); rw [HE2.out] at this; exact this
        rw [hd] at HD
        have hsn : decV (seg s.data.toList i0 (j + 1)) = 10 * decV (seg s.data.toList i0 j) + (c.toNat - 48) := by
          rw [run_snoc _ _ _ hij (by rw [HLEN.out]; exact hjl), decV_snoc]
          rw [← hc]; rfl
        by_cases h19 : j - i0 ≤ 18
        · have hv := hv (by omega)
          have hlt : decV (seg s.data.toList i0 j) < 1000000000000000000 := by
            have h1 := decV_lt (seg s.data.toList i0 j) (fun c hc => HDIG.out c (by
              unfold seg at hc ⊢
              exact (List.take_subset_take_left _ (by omega)) hc))
            rw [seg_length (by rw [HLEN.out]; omega)] at h1
            exact Nat.lt_of_lt_of_le h1 (by
              have : 10 ^ (j - i0) ≤ 10 ^ 18 := Nat.pow_le_pow_right (by omega) h19
              simpa using this)
          have hv2 : Hid (10 * v + (x - 48) = (decV (seg s.data.toList i0 (j + 1)) : Int)) := by rw [Hid, hsn, hv, ← hx]; omega
          have hv0 : 0 ≤ v := by omega
          have hv1 : v < 1000000000000000000 := by omega
          have h20' : (j : Int) - (i0 : Int) < 20 := by omega
          clear hv hlt hsn hE hk hkd hd
          go_wp2_with (first | (go_at_call 20; refine (HD.out _).mono ?_; rintro e w' ⟨rfl, hw⟩; have hw := hw.symm; subst hw) | (go_at_call 18; refine (HL.out _).mono ?_; rintro e w' ⟨rfl, hw⟩; have hw := hw.symm; subst hw))
          go_roundw
          case rel => exact ⟨j + 1, 10 * v + (x - 48), by omega, hjE2, by omega, by simp, rfl, fun _ => hv2.out, HE2.out, trivial⟩
          case measure => simp [restQ]; omega
        · by_cases h192 : j - i0 = 19
          · have h20' : (j : Int) - (i0 : Int) < 20 := by omega
            clear hv hsn hE hk hkd hd
            go_wp2_with (first | (go_at_call 20; refine (HD.out _).mono ?_; rintro e w' ⟨rfl, hw⟩; have hw := hw.symm; subst hw) | (go_at_call 18; refine (HL.out _).mono ?_; rintro e w' ⟨rfl, hw⟩; have hw := hw.symm; subst hw))
            go_roundw
            case rel => exact ⟨j + 1, _, by omega, hjE2, by omega, by simp, rfl, fun h => by omega, HE2.out, trivial⟩
            case measure => simp [restQ]; omega
          · have h20' : ¬ (j : Int) - (i0 : Int) < 20 := by omega
            have h19' : ¬ (j : Int) - (i0 : Int) ≤ 19 := by omega
            have HNONE : Hid (tokAt s.data.toList i0 = none) := by
              rw [Hid, HT.out]
              split
              · rfl
              · rw [if_neg (by omega)]
            clear hv hsn hE hk hkd hd
            go_wp2_with (first | (go_at_call 20; refine (HD.out _).mono ?_; rintro e w' ⟨rfl, hw⟩; have hw := hw.symm; subst hw) | (go_at_call 18; refine (HL.out _).mono ?_; rintro e w' ⟨rfl, hw⟩; have hw := hw.symm; subst hw))
            refine bodyPost_ret (results_rec Tryd.results21 _ _ N 29 _ (0, 0) _ rfl (set4 HBX.out _ _ _ _) Tryd.underlying29 rfl Tryd.size29) rfl ?_
            refine ⟨?_, by first | (rw [hN]; exact below4 HW1.out _ _ _ _) | exact below4 HW1.out _ _ _ _⟩
            unfold RefE
            rw [HNONE.out]
            exact ⟨_, _, _, _, _, rfl⟩
      · have hd0 : isD c = false := by simpa using hd
        have hdk : kdB c ≠ 5 := fun e => hd (hkd.2.1.2 e)
        obtain rfl : j = E := by
          rw [← hE]; exact (runTo_out (by rw [hk]; simp [dg, hdk])).symm
        rw [hd0] at HD
        have hkE : kdAt s.data.toList j = 4 ↔ isL c = true := by rw [hk]; exact hkd.1.symm
        by_cases h19 : j - i0 ≤ 19
        · have h19' : (j : Int) - (i0 : Int) ≤ 19 := by omega
          have hv := hv h19
          have hjn : ((j : Int) == (s.size : Int)) = false := beq_eq_false_iff_ne.2 (by omega)
          by_cases h63 : v < 9223372036854775808
          · have hv0 : 0 ≤ v := by omega
            by_cases hl : isL c = true
            · have HNONE : Hid (tokAt s.data.toList i0 = none) := by rw [Hid, HT.out, if_pos (hkE.2 hl)]
              rw [hl] at HL
              clear hv hE hk hkd hd hkE hl h19 h20 hjE
              go_wp2_with (first | (go_at_call 20; refine (HD.out _).mono ?_; rintro e w' ⟨rfl, hw⟩; have hw := hw.symm; subst hw) | (go_at_call 18; refine (HL.out _).mono ?_; rintro e w' ⟨rfl, hw⟩; have hw := hw.symm; subst hw))
              refine bodyPost_ret (results_rec Tryd.results21 _ _ N 29 _ (0, 0) _ rfl (set4 HBX.out _ _ _ _) Tryd.underlying29 rfl Tryd.size29) rfl ?_
              refine ⟨?_, by first | (rw [hN]; exact below4 HW1.out _ _ _ _) | exact below4 HW1.out _ _ _ _⟩
              unfold RefE
              rw [HNONE.out]
              exact ⟨_, _, _, _, _, rfl⟩
            · have hl0 : isL c = false := by simpa using hl
              have HSOME : Hid (tokAt s.data.toList i0 = some (⟨2, [], v.toNat, i0⟩, j)) := by
                rw [Hid, HT.out, if_neg (fun h => hl (hkE.1 h)), if_pos ⟨h19, by omega⟩, hv]
                rfl
              have hvt : ((v.toNat : Nat) : Int) = v := by omega
              rw [hl0] at HL
              clear hv hE hk hkd hd hkE hl h19 h20 hjE
              go_wp2_with (first | (go_at_call 20; refine (HD.out _).mono ?_; rintro e w' ⟨rfl, hw⟩; have hw := hw.symm; subst hw) | (go_at_call 18; refine (HL.out _).mono ?_; rintro e w' ⟨rfl, hw⟩; have hw := hw.symm; subst hw))
              refine bodyPost_ret (results_rec Tryd.results21 _ _ N 29 _ (0, 0) _ rfl (set4 HBX.out _ _ _ _) Tryd.underlying29 rfl Tryd.size29) rfl ?_
              refine ⟨?_, by first | (rw [hN]; exact below4 HW1.out _ _ _ _) | exact below4 HW1.out _ _ _ _⟩
              unfold RefE
              rw [HSOME.out]
              unfold tokV
              simp only [hvt]
              exact rfl
          · have HNONE : Hid (tokAt s.data.toList i0 = none) := by
              rw [Hid, HT.out]
              split
              · rfl
              · rw [if_neg (by omega)]
            clear hv hE hk hkd hd hkE h19 h20 hjE
            go_wp2_with (first | (go_at_call 20; refine (HD.out _).mono ?_; rintro e w' ⟨rfl, hw⟩; have hw := hw.symm; subst hw) | (go_at_call 18; refine (HL.out _).mono ?_; rintro e w' ⟨rfl, hw⟩; have hw := hw.symm; subst hw))
            refine bodyPost_ret (results_rec Tryd.results21 _ _ N 29 _ (0, 0) _ rfl (set4 HBX.out _ _ _ _) Tryd.underlying29 rfl Tryd.size29) rfl ?_
            refine ⟨?_, by first | (rw [hN]; exact below4 HW1.out _ _ _ _) | exact below4 HW1.out _ _ _ _⟩
            unfold RefE
            rw [HNONE.out]
            exact ⟨_, _, _, _, _, rfl⟩
        · have h19' : ¬ (j : Int) - (i0 : Int) ≤ 19 := by omega
          have HNONE : Hid (tokAt s.data.toList i0 = none) := by
            rw [Hid, HT.out]
            split
            · rfl
            · rw [if_neg (by omega)]
          clear hv hE hk hkd hd hkE
          go_wp2_with (first | (go_at_call 20; refine (HD.out _).mono ?_; rintro e w' ⟨rfl, hw⟩; have hw := hw.symm; subst hw) | (go_at_call 18; refine (HL.out _).mono ?_; rintro e w' ⟨rfl, hw⟩; have hw := hw.symm; subst hw))
          refine bodyPost_ret (results_rec Tryd.results21 _ _ N 29 _ (0, 0) _ rfl (set4 HBX.out _ _ _ _) Tryd.underlying29 rfl Tryd.size29) rfl ?_
          refine ⟨?_, by first | (rw [hN]; exact below4 HW1.out _ _ _ _) | exact below4 HW1.out _ _ _ _⟩
          unfold RefE
          rw [HNONE.out]
          exact ⟨_, _, _, _, _, rfl⟩
    · obtain rfl : s.size = j := by omega
      have hEj : s.size = E := by omega
      have hk4 : kdAt s.data.toList E ≠ 4 := by rw [kdAt_over (by rw [HLEN.out]; omega)]; omega
      have HEJ := hide hEj
      by_cases h19 : s.size - i0 ≤ 19
      · have h19' : (s.size : Int) - (i0 : Int) ≤ 19 := by omega
        have hv := hv h19
        by_cases h63 : v < 9223372036854775808
        · have hv0 : 0 ≤ v := by omega
          have HSOME : Hid (tokAt s.data.toList i0 = some (⟨2, [], v.toNat, i0⟩, s.size)) := by
            rw [Hid, HT.out, if_neg hk4, ← hEj, if_pos ⟨h19, by omega⟩, hv]
            rfl
          have hvt : ((v.toNat : Nat) : Int) = v := by omega
          clear hv hE hk4 hEj h19 h20 hjE hjl
          go_wp2
          refine bodyPost_ret (results_rec Tryd.results21 _ _ N 29 _ (0, 0) _ rfl (set4 HBX.out _ _ _ _) Tryd.underlying29 rfl Tryd.size29) rfl ?_
          refine ⟨?_, by first | (rw [hN]; exact below4 HW1.out _ _ _ _) | exact below4 HW1.out _ _ _ _⟩
          unfold RefE
          rw [HSOME.out]
          unfold tokV
          simp only [hvt]
          exact rfl
        · have HNONE : Hid (tokAt s.data.toList i0 = none) := by
            rw [Hid, HT.out, if_neg hk4, ← hEj, if_neg (by omega)]
          clear hv hE hk4 hEj h19 h20 hjE hjl
          go_wp2
          refine bodyPost_ret (results_rec Tryd.results21 _ _ N 29 _ (0, 0) _ rfl (set4 HBX.out _ _ _ _) Tryd.underlying29 rfl Tryd.size29) rfl ?_
          refine ⟨?_, by first | (rw [hN]; exact below4 HW1.out _ _ _ _) | exact below4 HW1.out _ _ _ _⟩
          unfold RefE
          rw [HNONE.out]
          exact ⟨_, _, _, _, _, rfl⟩
      · have h19' : ¬ (s.size : Int) - (i0 : Int) ≤ 19 := by omega
        have HNONE : Hid (tokAt s.data.toList i0 = none) := by
          rw [Hid, HT.out, if_neg hk4, if_neg (by omega)]
        clear hv hE hk4 hEj
        go_wp2
        refine bodyPost_ret (results_rec Tryd.results21 _ _ N 29 _ (0, 0) _ rfl (set4 HBX.out _ _ _ _) Tryd.underlying29 rfl Tryd.size29) rfl ?_
        refine ⟨?_, by first | (rw [hN]; exact below4 HW1.out _ _ _ _) | exact below4 HW1.out _ _ _ _⟩
        unfold RefE
        rw [HNONE.out]
        exact ⟨_, _, _, _, _, rfl⟩
end Go.Proofs.YtnbegpfbolkdiaaDoor
