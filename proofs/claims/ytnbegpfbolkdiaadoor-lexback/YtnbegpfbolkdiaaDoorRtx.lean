/- The document's text. -/
import Derived.Test.YtnbegpfbolkdiaaDoorRnm
namespace Go.Proofs.YtnbegpfbolkdiaaDoor
set_option maxRecDepth 100000
open Go.RowKit
set_option linter.unusedVariables false
set_option linter.unusedSimpArgs false

theorem tok_text {l : List UInt8} {i : Nat} (h6 : kdAt l i = 6) :
    tokAt l i = (txtS false (l.drop (i + 1))).map (fun q => (⟨3, q.1, 0, i⟩, i + 1 + q.2)) := by
  cases hq : txtS false (l.drop (i + 1)) with
  | none =>
    have hs : strF l i = (0, 0) := by
      unfold strF txtTo
      rw [if_neg (by omega), if_neg (by omega), if_pos h6, hq, if_pos rfl]
    unfold tokAt
    rw [hs]
    rfl
  | some p =>
    obtain ⟨m, h0, h1, h2⟩ := (txt_says _ false p hq).1 rfl
    have hs : strF l i = (3, i + 1 + p.2) := by
      unfold strF txtTo
      rw [if_neg (by omega), if_neg (by omega), if_pos h6, hq, if_neg (by simp)]
    unfold tokAt
    rw [hs]
    have e : seg l (i + 1) (i + p.2) = (l.drop (i + 1)).take m := by
      unfold seg
      congr 1
      omega
    simp [e, h2]
def shiftT (acc : List UInt8) (d : Nat) (q : List UInt8 × Nat) : List UInt8 × Nat := (acc ++ q.1, q.2 + d)
theorem shift_other {l : List UInt8} {j : Nat} {acc : List UInt8} {d : Nat} (hj : j < l.length) (h : l[j] ≠ 39) :
    (txtS false (l.drop j)).map (shiftT acc d) = (txtS false (l.drop (j + 1))).map (shiftT (acc ++ [l[j]]) (d + 1)) := by
  rw [drop_of_lt hj]
  simp only [txtS]
  rw [if_neg (fun e => h (kd_quote.1 e))]
  cases txtS false (l.drop (j + 1)) with
  | none => rfl
  | some q => simp [shiftT]; omega
theorem shift_pair {l : List UInt8} {j : Nat} {acc : List UInt8} {d : Nat} (hj : j + 1 < l.length) (h : l[j] = 39) (h' : l[j + 1] = 39) :
    (txtS false (l.drop j)).map (shiftT acc d) = (txtS false (l.drop (j + 1 + 1))).map (shiftT (acc ++ [39]) (d + 2)) := by
  rw [drop_of_lt (show j < l.length by omega)]
  simp only [txtS]
  rw [if_pos (kd_quote.2 h), drop_of_lt hj]
  simp only [txtS]
  rw [if_pos (kd_quote.2 h'), h']
  cases txtS false (l.drop (j + 1 + 1)) with
  | none => rfl
  | some q => simp [shiftT]; omega
theorem shift_end {l : List UInt8} {j : Nat} {acc : List UInt8} {d : Nat} (hj : j < l.length) (h : l[j] = 39) (h' : kdAt l (j + 1) ≠ 6) :
    (txtS false (l.drop j)).map (shiftT acc d) = some (acc, d + 1) := by
  rw [drop_of_lt hj]
  simp only [txtS]
  rw [if_pos (kd_quote.2 h)]
  rcases Nat.lt_or_ge (j + 1) l.length with h1 | h1
  · rw [drop_of_lt h1]
    simp only [txtS]
    rw [kdAt_in h1] at h'
    rw [if_neg h']
    simp [shiftT]; omega
  · rw [List.drop_of_length_le h1]
    simp [txtS, shiftT]; omega
theorem shift_none {l : List UInt8} {j : Nat} {acc : List UInt8} {d : Nat} (hj : l.length ≤ j) : (txtS false (l.drop j)).map (shiftT acc d) = none := by
  rw [List.drop_of_length_le hj]
  rfl
theorem Tryd.results22 : Tryd.f22.results = #[.cell 4 29, .tmp 5, .tmp 6] := by kernel_rfl
set_option maxHeartbeats 4000000 in
theorem refText_any (s : ByteArray) (i0 : Nat) (w : World) (hi : i0 < s.size) (hs : s.size ≤ 4096) (h6 : kdAt s.data.toList i0 = 6) :
    Calls Tryd.prog 22 #[.string s, .int .i64 (i0 : Int)] w fun o w' => RefE s.data.toList i0 o ∧ Below w.heap.size w w' := by
  have hlen : s.data.toList.length = s.size := (Lib.size_eq s).symm
  have HT := hide (tok_text h6)
  have HLEN := hide hlen
  clear hlen h6
  obtain ⟨N, hN⟩ : ∃ N, w.heap.size = N := ⟨_, rfl⟩
  go_enter Tryd.func22, Tryd.ntmps22
  go_wp2
  have HW1 : Hid (Below N w (w.alloc (.cells #[.int .i64 0, .string ⟨#[]⟩, .int .i64 0, .int .i64 0] 29))) := by rw [← hN]; exact (Below.refl _ _).alloc (Nat.le_refl _) _
  have HBX : Hid ((w.alloc (.cells #[.int .i64 0, .string ⟨#[]⟩, .int .i64 0, .int .i64 0] 29)).heap[N]? = some (.cells #[.int .i64 0, .string ⟨#[]⟩, .int .i64 0, .int .i64 0] 29 (0, 0))) := by rw [← hN]; exact heap_alloc_new w _
  obtain ⟨w1, hw1⟩ : ∃ w1, w.alloc (.cells #[.int .i64 0, .string ⟨#[]⟩, .int .i64 0, .int .i64 0] 29) = w1 := ⟨_, rfl⟩
  rw [hw1] at HW1 HBX ⊢
  clear hw1
  have hbv39 := buildB 39
  have HX39 : Hid (∀ W : World, Sl (W.alloc (.cells #[.int .u8 39] 5)) (.slice (some ⟨W.heap.size, 0, none⟩) 1 1) [39]) := fun W => sl1 W 39
  go_loopw [7, 8] (fun u z wr => ∃ (j : Nat) (acc : List UInt8), i0 + 1 ≤ j ∧ j ≤ s.size ∧ acc.length ≤ j ∧ z = .int .i64 (j : Int) ∧ txtS false (s.data.toList.drop (i0 + 1)) = (txtS false (s.data.toList.drop j)).map (shiftT acc (j - (i0 + 1))) ∧ Bts w1 wr u acc) (fun _ z _ => restQ s.size z)
  case atStart => exact ⟨i0 + 1, [], Nat.le_refl _, hi, Nat.zero_le _, by simp, by
    have e : shiftT [] (i0 + 1 - (i0 + 1)) = id := by funext q; simp [shiftT]
    rw [e, Option.map_id]; rfl, ⟨Below.refl _ _, World.ownsRow_nil _ _ _ _⟩⟩
  case round =>
    obtain ⟨j, acc, hij, hj, hacc, rfl, hX, hB⟩ := hrel
    have HB := hide hB
    clear hB
    by_cases hjl : j < s.size
    · have hjl' : (j : Int) < (s.size : Int) := by omega
      obtain ⟨c, hc⟩ : ∃ c : UInt8, s[j] = c := ⟨_, rfl⟩
      have hcl : s.data.toList[j]'(by rw [HLEN.out]; exact hjl) = c := by rw [← hc]; rfl
      have hal : acc.length + 1 ≤ 1000000000 := by omega
      obtain ⟨x, hx⟩ : ∃ x : Int, (c.toNat : Int) = x := ⟨_, rfl⟩
      have hxk : x = 39 ↔ c = 39 := by rw [← hx, show (39 : Int) = ((39 : Nat) : Int) from rfl, byte_is c 39 (by omega)]; rfl
      by_cases h39 : x = 39
      · have hc39 := hxk.1 h39
        by_cases hj1 : j + 1 < s.size
        · have hj1' : (j : Int) + 1 < (s.size : Int) := by omega
          obtain ⟨d, hd⟩ : ∃ d : UInt8, s[j + 1] = d := ⟨_, rfl⟩
          have hdl : s.data.toList[j + 1]'(by rw [HLEN.out]; exact hj1) = d := by rw [← hd]; rfl
          obtain ⟨y, hy⟩ : ∃ y : Int, (d.toNat : Int) = y := ⟨_, rfl⟩
          have hyk : y = 39 ↔ d = 39 := by rw [← hy, show (39 : Int) = ((39 : Nat) : Int) from rfl, byte_is d 39 (by omega)]; rfl
          by_cases hy39 : y = 39
          · have HN : Hid (txtS false (s.data.toList.drop (i0 + 1)) = (txtS false (s.data.toList.drop (j + 1 + 1))).map (shiftT (acc ++ [39]) (j + 1 + 1 - (i0 + 1)))) := by
              rw [Hid, hX, shift_pair (by rw [HLEN.out]; exact hj1) (by rw [hcl]; exact hc39) (by rw [hdl]; exact hyk.1 hy39)]
              rw [show j - (i0 + 1) + 2 = j + 1 + 1 - (i0 + 1) by omega]
            have HAL2 : Hid ((acc ++ [39]).length ≤ j + 1 + 1) := by rw [Hid, List.length_append]; simp; omega
            subst hy39
            subst h39
            clear hX hxk hyk hcl hdl hc39
            go_wp2_with (refine wpList_append_bts rfl (.tmp 39) (.tmp 40) rfl w1 _ _ _ _ rfl rfl (HB.out.alloc _) (HX39.out _) hal ?_; intro u3 W3 hV3 hg3)
            go_roundw
            case rel => exact ⟨j + 1 + 1, acc ++ [39], by omega, hj1, HAL2.out, by simp, HN.out, hV3⟩
            case measure => simp [restQ]; omega
          · have HS : Hid (txtS false (s.data.toList.drop (i0 + 1)) = some (acc, j - (i0 + 1) + 1)) := by
              rw [Hid, hX, shift_end (by rw [HLEN.out]; exact hjl) (by rw [hcl]; exact hc39) (by rw [kdAt_in (by rw [HLEN.out]; exact hj1), hdl]; intro e; exact hy39 (hyk.2 (kd_quote.1 e)))]
            have hy39' : (y == 39) = false := beq_eq_false_iff_ne.2 hy39
            subst h39
            clear hX hxk hyk hcl hdl hc39
            obtain ⟨ao, cc, hu, hc1, hc2⟩ := HB.out.sl.len
            subst hu
            have hcv := run_str HB.out.sl
            have HSOME : Hid (tokAt s.data.toList i0 = some (⟨3, acc, 0, i0⟩, j + 1)) := by
              rw [Hid, HT.out, HS.out]
              show some (_, i0 + 1 + (j - (i0 + 1) + 1)) = _
              rw [show i0 + 1 + (j - (i0 + 1) + 1) = j + 1 by omega]
            have hbox := (HB.out.below.block N (lt_of_heap HBX.out)).trans HBX.out
            have HBW := hide (HW1.out.trans (HB.out.below.mono (Nat.le_of_lt (lt_of_heap HBX.out))))
            have c0 := cell_row (o := 0) hbox
            have c1 := cell_row (o := 1) hbox
            have c2 := cell_row (o := 2) hbox
            have c3 := cell_row (o := 3) hbox
            have f0 : ∀ k, wr.frozen? ⟨N, k, none⟩ = false := fun k => frozen_row hbox
            simp only [List.getElem?_toArray, List.getElem?_cons_zero, List.getElem?_cons_succ] at c0 c1 c2 c3
            have HBOX := hide hbox
            clear hbox
            go_wp2
            refine bodyPost_ret (results_rec Tryd.results22 _ _ N 29 _ (0, 0) _ rfl (set4 HBOX.out _ _ _ _) Tryd.underlying29 rfl Tryd.size29) rfl ?_
            refine ⟨?_, by first | (rw [hN]; exact below4 HBW.out _ _ _ _) | exact below4 HBW.out _ _ _ _⟩
            unfold RefE
            rw [HSOME.out]
            unfold tokV
            simp only [Int.natCast_add, Int.natCast_one]
            exact rfl
        · have hj1' : ¬ (j : Int) + 1 < (s.size : Int) := by omega
          have HS : Hid (txtS false (s.data.toList.drop (i0 + 1)) = some (acc, j - (i0 + 1) + 1)) := by
            rw [Hid, hX, shift_end (by rw [HLEN.out]; exact hjl) (by rw [hcl]; exact hc39) (by rw [kdAt_over (by rw [HLEN.out]; omega)]; omega)]
          subst h39
          clear hX hxk hcl hc39
          obtain ⟨ao, cc, hu, hc1, hc2⟩ := HB.out.sl.len
          subst hu
          have hcv := run_str HB.out.sl
          have HSOME : Hid (tokAt s.data.toList i0 = some (⟨3, acc, 0, i0⟩, j + 1)) := by
            rw [Hid, HT.out, HS.out]
            show some (_, i0 + 1 + (j - (i0 + 1) + 1)) = _
            rw [show i0 + 1 + (j - (i0 + 1) + 1) = j + 1 by omega]
          have hbox := (HB.out.below.block N (lt_of_heap HBX.out)).trans HBX.out
          have HBW := hide (HW1.out.trans (HB.out.below.mono (Nat.le_of_lt (lt_of_heap HBX.out))))
          have c0 := cell_row (o := 0) hbox
          have c1 := cell_row (o := 1) hbox
          have c2 := cell_row (o := 2) hbox
          have c3 := cell_row (o := 3) hbox
          have f0 : ∀ k, wr.frozen? ⟨N, k, none⟩ = false := fun k => frozen_row hbox
          simp only [List.getElem?_toArray, List.getElem?_cons_zero, List.getElem?_cons_succ] at c0 c1 c2 c3
          have HBOX := hide hbox
          clear hbox
          go_wp2
          refine bodyPost_ret (results_rec Tryd.results22 _ _ N 29 _ (0, 0) _ rfl (set4 HBOX.out _ _ _ _) Tryd.underlying29 rfl Tryd.size29) rfl ?_
          refine ⟨?_, by first | (rw [hN]; exact below4 HBW.out _ _ _ _) | exact below4 HBW.out _ _ _ _⟩
          unfold RefE
          rw [HSOME.out]
          unfold tokV
          simp only [Int.natCast_add, Int.natCast_one]
          exact rfl
      · have h39' : (x == 39) = false := beq_eq_false_iff_ne.2 h39
        have HN : Hid (txtS false (s.data.toList.drop (i0 + 1)) = (txtS false (s.data.toList.drop (j + 1))).map (shiftT (acc ++ [c]) (j + 1 - (i0 + 1)))) := by
          rw [Hid, hX, shift_other (by rw [HLEN.out]; exact hjl) (by rw [hcl]; exact fun e => h39 (hxk.2 e)), hcl]
          rw [show j - (i0 + 1) + 1 = j + 1 - (i0 + 1) by omega]
        have HAL2 : Hid ((acc ++ [c]).length ≤ j + 1) := by rw [Hid, List.length_append]; simp; omega
        have HX : Hid (∀ W : World, Sl (W.alloc (.cells #[.int .u8 (c.toNat : Int)] 5)) (.slice (some ⟨W.heap.size, 0, none⟩) 1 1) [c]) := fun W => sl1 W c
        rw [hx] at HX
        have hbv := buildB x
        clear hX hxk hcl
        go_wp2_with (refine wpList_append_bts rfl (.tmp 21) (.tmp 25) rfl w1 _ _ _ _ rfl rfl (HB.out.alloc _) (HX.out _) hal ?_; intro u3 W3 hV3 hg3)
        go_roundw
        case rel => exact ⟨j + 1, acc ++ [c], by omega, hjl, HAL2.out, by simp, HN.out, hV3⟩
        case measure => simp [restQ]; omega
    · obtain rfl : j = s.size := by omega
      have HNONE : Hid (tokAt s.data.toList i0 = none) := by rw [Hid, HT.out, hX, shift_none (by rw [HLEN.out]; exact Nat.le_refl _)]; rfl
      clear hX hjl
      have hbox := (HB.out.below.block N (lt_of_heap HBX.out)).trans HBX.out
      have HBW := hide (HW1.out.trans (HB.out.below.mono (Nat.le_of_lt (lt_of_heap HBX.out))))
      have c0 := cell_row (o := 0) hbox
      have c1 := cell_row (o := 1) hbox
      have c2 := cell_row (o := 2) hbox
      have c3 := cell_row (o := 3) hbox
      have f0 : ∀ k, wr.frozen? ⟨N, k, none⟩ = false := fun k => frozen_row hbox
      simp only [List.getElem?_toArray, List.getElem?_cons_zero, List.getElem?_cons_succ] at c0 c1 c2 c3
      have HBOX := hide hbox
      clear hbox
      go_wp2
      refine bodyPost_ret (results_rec Tryd.results22 _ _ N 29 _ (0, 0) _ rfl (set4 HBOX.out _ _ _ _) Tryd.underlying29 rfl Tryd.size29) rfl ?_
      refine ⟨?_, by first | (rw [hN]; exact below4 HBW.out _ _ _ _) | exact below4 HBW.out _ _ _ _⟩
      unfold RefE
      rw [HNONE.out]
      exact ⟨_, _, _, _, _, rfl⟩
end Go.Proofs.YtnbegpfbolkdiaaDoor
