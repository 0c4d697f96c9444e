/- The document's word. -/
import Derived.Test.YtnbegpfbolkdiaaDoorRsk
import Derived.Test.YtnbegpfbolkdiaaDoorVls
namespace Go.Proofs.YtnbegpfbolkdiaaDoor
set_option maxRecDepth 100000
open Go.RowKit
set_option linter.unusedVariables false
set_option linter.unusedSimpArgs false

/-- Bytes of the call's own. -/
structure Bts (w0 w : World) (v : Value) (l : List UInt8) : Prop where
  below : Below w0.heap.size w0 w
  own : w.ownsRow w0.heap.size 5 1 v l.length (secCells l)
theorem Bts.belowW {w0 w w' : World} {v : Value} {l : List UInt8} (h : Bts w0 w v l) (hb : Below w.heap.size w w') : Bts w0 w' v l :=
  ⟨h.below.trans (hb.mono h.below.size), owns_below h.own hb (Nat.le_refl _)⟩
theorem Bts.sl {w0 w : World} {v : Value} {l : List UInt8} (h : Bts w0 w v l) : Sl w v l := Row.of_owns h.own
theorem Bts.alloc {w0 w : World} {v : Value} {l : List UInt8} (h : Bts w0 w v l) (o : Obj) : Bts w0 (w.alloc o) v l := h.belowW ((Below.refl _ _).alloc (Nat.le_refl _) _)
theorem buildB (b : Int) (w : World) : (Instr.buildSlice 23 1 #[(0, .int .u8 b)]).run Tryd.prog w = .ok (.slice (some ⟨w.heap.size, 0, none⟩) 1 1) (w.alloc (.cells #[.int .u8 b] 5)) := by kernel_rfl
theorem sl1 (w : World) (c : UInt8) : Sl (w.alloc (.cells #[.int .u8 (c.toNat : Int)] 5)) (.slice (some ⟨w.heap.size, 0, none⟩) 1 1) [c] :=
  ⟨_, 1, rfl, Nat.le_refl _, by simp only [maxLen]; omega, fun _ => ⟨w.heap.size, 0, rfl, fun j u hu => by
    rw [Nat.zero_add, cell_row (heap_alloc_new w _)]
    simpa [secCells, bcell] using hu⟩⟩
theorem one_secCells' (s : List UInt8) : ∀ v ∈ secCells s, v.oneCell' = true := one_secCells s
theorem wpList_append_bts {ops : Array Oper} {rest : List Oper} {o : Oper} {a : Act} {w : World} {Q : Exit → Act → World → Prop}
    (hg : o.guard = none) (s x : Operand) (hop : o.op = Op.call { callee := Callee.builtin Builtin.append, args := #[s, x], argTypes := #[23, 23] })
    (w0 : World) (u y : Value) (A C : List UInt8) (hs : a.eval s = u) (hy : a.eval x = y) (h : Bts w0 w u A) (hx : Sl w y C) (hl : A.length + C.length ≤ 1000000000)
    (hK : ∀ u' w', Bts w0 w' u' (A ++ C) → w.grownBy w' u.ownBlock → wpList Tryd.prog ops Q rest (a.put o.dst u') w') :
    wpList Tryd.prog ops Q (o :: rest) a w := by
  refine wpList_append_row hg s x 23 hop w0.heap.size 5 (.int .u8 0) 1 1 Tryd.underlying23 Tryd.info5 rfl (by omega) u A.length (secCells A) y C.length (secCells C) hs hy h.own hx (by rw [length_secCells]; omega) (one_secCells C) (by omega) (by omega) h.below.size ?_
  intro v' w' r1 r2
  exact hK v' w' ⟨grown_below h.below h.own r2 (Nat.le_refl _), by rw [List.length_append, secCells_append]; exact r1⟩ r2
theorem run_snoc (l : List UInt8) (i j : Nat) (hij : i ≤ j) (hj : j < l.length) : seg l i (j + 1) = seg l i j ++ [l[j]] := by
  unfold seg
  rw [show j + 1 - i = (j - i) + 1 by omega]
  rw [List.take_succ_eq_append_getElem (by rw [List.length_drop]; omega)]
  congr 2
  rw [List.getElem_drop]
  congr 1
  omega
theorem seg_nil (l : List UInt8) (i : Nat) : seg l i i = [] := by simp [seg]
theorem below_grown {w0 w w' : World} {b : Nat} {u : Value} {A : List UInt8} (h : Bts w0 w u A) (hg : w.grownBy w' u.ownBlock) (k : Nat) (hk : k < w.heap.size) (hn : k < w0.heap.size) : w'.heap[k]? = w.heap[k]? :=
  hg.block k hk (fun e => by have := (h.own.lt _ e.symm).1; omega)
theorem lower_nat : ∀ c : UInt8, ((Lib.lowerB c).toNat : Int) = if 65 ≤ (c.toNat : Int) ∧ (c.toNat : Int) ≤ 90 then (c.toNat : Int) + 32 else (c.toNat : Int) := by
  have h : ∀ i : Fin 256, ((Lib.lowerB (UInt8.ofNat i.val)).toNat : Int) = if 65 ≤ ((UInt8.ofNat i.val).toNat : Int) ∧ ((UInt8.ofNat i.val).toNat : Int) ≤ 90 then ((UInt8.ofNat i.val).toNat : Int) + 32 else ((UInt8.ofNat i.val).toNat : Int) := by decide +kernel
  intro c
  have := h ⟨c.toNat, c.toNat_lt⟩
  simpa using this
theorem Tryd.results19 : Tryd.f19.results = #[.cell 4 29, .tmp 5, .tmp 6] := by kernel_rfl
theorem set4 {w : World} {b : Nat} {a0 a1 a2 a3 : Value} (h : w.heap[b]? = some (.cells #[a0, a1, a2, a3] 29 (0, 0))) (v0 v1 v2 v3 : Value) :
    ((((w.setCell ⟨b, 0, none⟩ v0).setCell ⟨b, 1, none⟩ v1).setCell ⟨b, 2, none⟩ v2).setCell ⟨b, 3, none⟩ v3).heap[b]? = some (.cells #[v0, v1, v2, v3] 29 (0, 0)) := by
  rw [heap_set_same _ (heap_set_same _ (heap_set_same _ (heap_set_same _ h)))]
  rfl
theorem below4 {w0 w : World} {b : Nat} (h : Below b w0 w) (v0 v1 v2 v3 : Value) :
    Below b w0 ((((w.setCell ⟨b, 0, none⟩ v0).setCell ⟨b, 1, none⟩ v1).setCell ⟨b, 2, none⟩ v2).setCell ⟨b, 3, none⟩ v3) :=
  (((h.setCell (Nat.le_refl _) _).setCell (Nat.le_refl _) _).setCell (Nat.le_refl _) _).setCell (Nat.le_refl _) _
set_option maxHeartbeats 8000000 in
theorem refWord_any (s : ByteArray) (i0 : Nat) (w : World) (hi : i0 ≤ s.size) (hs : s.size ≤ 4096) :
    Calls Tryd.prog 19 #[.string s, .int .i64 (i0 : Int)] w fun o w' =>
      o = .returned (.tuple #[tokV ⟨1, Lib.toLowerA (seg s.data.toList i0 (runTo wd s.data.toList i0)), 0, i0⟩, .int .i64 (runTo wd s.data.toList i0 : Nat), .bool (decide (runTo wd s.data.toList i0 - i0 ≤ 32))]) ∧ Below w.heap.size w w' := by
  have hlen : s.data.toList.length = s.size := (Lib.size_eq s).symm
  obtain ⟨E, hE⟩ : ∃ E, runTo wd s.data.toList i0 = E := ⟨_, rfl⟩
  rw [hE]
  have hEle : E ≤ s.size := by rw [← hE, ← hlen]; exact runTo_le (by omega)
  have HLEN := hide hlen
  clear hlen
  obtain ⟨N, hN⟩ : ∃ N, w.heap.size = N := ⟨_, rfl⟩
  go_enter Tryd.func19, Tryd.ntmps19
  go_wp2
  have HW1 : Hid (Below N w (w.alloc (.cells #[.int .i64 0, .string ⟨#[]⟩, .int .i64 0, .int .i64 0] 29))) := by rw [← hN]; exact (Below.refl _ _).alloc (Nat.le_refl _) _
  have HBX : Hid ((w.alloc (.cells #[.int .i64 0, .string ⟨#[]⟩, .int .i64 0, .int .i64 0] 29)).heap[N]? = some (.cells #[.int .i64 0, .string ⟨#[]⟩, .int .i64 0, .int .i64 0] 29 (0, 0))) := by rw [← hN]; exact heap_alloc_new w _
  obtain ⟨w1, hw1⟩ : ∃ w1, w.alloc (.cells #[.int .i64 0, .string ⟨#[]⟩, .int .i64 0, .int .i64 0] 29) = w1 := ⟨_, rfl⟩
  rw [hw1] at HW1 HBX ⊢
  clear hw1
  go_loopw [7, 8] (fun z u wr => ∃ j : Nat, i0 ≤ j ∧ j ≤ s.size ∧ z = .int .i64 (j : Int) ∧ runTo wd s.data.toList j = E ∧ Bts w1 wr u (Lib.toLowerA (seg s.data.toList i0 j))) (fun z _ _ => restQ s.size z)
  case atStart => exact ⟨i0, Nat.le_refl _, hi, rfl, hE, by rw [seg_nil]; exact ⟨Below.refl _ _, World.ownsRow_nil _ _ _ _⟩⟩
  case round =>
    clear hE hi
    obtain ⟨j, hij, hj, rfl, hE, hB⟩ := hrel
    have HB := hide hB
    clear hB
    by_cases hjl : j < s.size
    · have hjl' : (j : Int) < (s.size : Int) := by omega
      obtain ⟨c, hc⟩ : ∃ c : UInt8, s[j] = c := ⟨_, rfl⟩
      have hk : kdAt s.data.toList j = kdB c := by rw [kd_at_byte s j hjl, hc]
      have hkd := kd_all c
      have HL := hide (letter_any c)
      have HD := hide (digit_any c)
      have hal : (Lib.toLowerA (seg s.data.toList i0 j)).length + [Lib.lowerB c].length ≤ 1000000000 := by
        rw [Lib.toLowerA, List.length_map, seg_length (by rw [HLEN.out]; exact hj)]; simp; omega
      have HSG : Hid (Lib.toLowerA (seg s.data.toList i0 (j + 1)) = Lib.toLowerA (seg s.data.toList i0 j) ++ [Lib.lowerB c]) := by
        rw [Hid, run_snoc _ _ _ hij (by rw [HLEN.out]; exact hjl)]
        simp [Lib.toLowerA, ← hc, ByteArray.getElem_eq_getElem_data]
      have HX : Hid (∀ W : World, Sl (W.alloc (.cells #[.int .u8 ((Lib.lowerB c).toNat : Int)] 5)) (.slice (some ⟨W.heap.size, 0, none⟩) 1 1) [Lib.lowerB c]) := fun W => sl1 W _
      have hlow := lower_nat c
      have h256 := c.toNat_lt
      have HE : wd (kdB c) = true → Hid (runTo wd s.data.toList (j + 1) = E) := fun h => by
        rw [Hid, ← runTo_in (by rw [hk]; exact h) (by rw [hk]; exact kdB_ne1 _)]; exact hE
      have HO : wd (kdB c) = false → j = E := fun h => by
        rw [← hE]; exact (runTo_out (by rw [hk]; exact h)).symm
      have hwd : wd (kdB c) = (isL c || isD c) := by
        rw [Bool.eq_iff_iff]; simp only [wd, Bool.or_eq_true, beq_iff_eq, hkd.1, hkd.2.1]
      rw [hwd] at HE HO
      obtain ⟨x, hx⟩ : ∃ x : Int, (c.toNat : Int) = x := ⟨_, rfl⟩
      rw [hx] at HL HD hlow
      obtain ⟨y, hy⟩ : ∃ y : Int, ((Lib.lowerB c).toNat : Int) = y := ⟨_, rfl⟩
      rw [hy] at HX hlow
      have hx0 : 0 ≤ x := by omega
      have hx1 : x < 256 := by omega
      have hbv := buildB y
      clear hE hk hkd hwd h256 hy
      generalize isL c = bl at *
      generalize isD c = bd at *
      cases bl
      · cases bd
        · obtain rfl := HO rfl
          clear HE HO HX hbv hlow
          obtain ⟨ao, cc, hu, hc1, hc2⟩ := HB.out.sl.len
          have hl : (Lib.toLowerA (seg s.data.toList i0 j)).length = j - i0 := by rw [Lib.toLowerA, List.length_map, seg_length (by rw [HLEN.out]; exact hj)]
          rw [hl] at hu hc1
          subst hu
          have hbox := (HB.out.below.block N (lt_of_heap HBX.out)).trans HBX.out
          have HBW := hide (HW1.out.trans (HB.out.below.mono (Nat.le_of_lt (lt_of_heap HBX.out))))
          have hcv := run_str HB.out.sl
          have c0 := cell_row (o := 0) hbox
          have c1 := cell_row (o := 1) hbox
          have c2 := cell_row (o := 2) hbox
          have c3 := cell_row (o := 3) hbox
          have f0 : ∀ k, wr.frozen? ⟨N, k, none⟩ = false := fun k => frozen_row hbox
          simp only [List.getElem?_toArray, List.getElem?_cons_zero, List.getElem?_cons_succ] at c0 c1 c2 c3
          have HBOX := hide hbox
          have HDEC : Hid (decide (((j - i0 : Nat) : Int) ≤ 32) = decide (j - i0 ≤ 32)) := decide_eq_decide.2 (by omega)
          clear hbox hl
          go_wp2_with (first | (go_at_call 18; refine (HL.out _).mono ?_; rintro e w' ⟨rfl, hw⟩; have hw := hw.symm; subst hw) | (go_at_call 20; refine (HD.out _).mono ?_; rintro e w' ⟨rfl, hw⟩; have hw := hw.symm; subst hw))
          refine bodyPost_ret (v := .tuple #[tokV ⟨1, Lib.toLowerA (seg s.data.toList i0 j), 0, i0⟩, .int .i64 (j : Int), .bool (decide (((j - i0 : Nat) : Int) ≤ 32))]) (results_rec Tryd.results19 _ _ N 29 _ (0, 0) _ rfl (set4 HBOX.out _ _ _ _) Tryd.underlying29 rfl Tryd.size29) rfl ?_
          rw [HDEC.out]
          exact ⟨rfl, by rw [hN]; exact below4 HBW.out _ _ _ _⟩
        · have HE := HE rfl
          clear HO
          by_cases h65 : x < 65
          · rw [if_neg (by omega)] at hlow
            subst hlow
            go_wp2_with (first | (go_at_call 18; refine (HL.out _).mono ?_; rintro e w' ⟨rfl, hw⟩; have hw := hw.symm; subst hw) | (go_at_call 20; refine (HD.out _).mono ?_; rintro e w' ⟨rfl, hw⟩; have hw := hw.symm; subst hw) | (refine wpList_append_bts rfl (.tmp 38) (.tmp 40) rfl w1 _ _ _ _ rfl rfl (HB.out.alloc _) (HX.out _) hal ?_; intro u3 W3 hV3 hg3))
            go_roundw
            case rel => exact ⟨j + 1, by omega, hjl, by simp, HE.out, by rw [HSG.out]; exact hV3⟩
            case measure => simp [restQ]; omega
          · by_cases h90 : 90 < x
            · rw [if_neg (by omega)] at hlow
              subst hlow
              go_wp2_with (first | (go_at_call 18; refine (HL.out _).mono ?_; rintro e w' ⟨rfl, hw⟩; have hw := hw.symm; subst hw) | (go_at_call 20; refine (HD.out _).mono ?_; rintro e w' ⟨rfl, hw⟩; have hw := hw.symm; subst hw) | (refine wpList_append_bts rfl (.tmp 38) (.tmp 40) rfl w1 _ _ _ _ rfl rfl (HB.out.alloc _) (HX.out _) hal ?_; intro u3 W3 hV3 hg3))
              go_roundw
              case rel => exact ⟨j + 1, by omega, hjl, by simp, HE.out, by rw [HSG.out]; exact hV3⟩
              case measure => simp [restQ]; omega
            · rw [if_pos (by omega)] at hlow
              subst hlow
              go_wp2_with (first | (go_at_call 18; refine (HL.out _).mono ?_; rintro e w' ⟨rfl, hw⟩; have hw := hw.symm; subst hw) | (go_at_call 20; refine (HD.out _).mono ?_; rintro e w' ⟨rfl, hw⟩; have hw := hw.symm; subst hw) | (refine wpList_append_bts rfl (.tmp 38) (.tmp 40) rfl w1 _ _ _ _ rfl rfl (HB.out.alloc _) (HX.out _) hal ?_; intro u3 W3 hV3 hg3))
              go_roundw
              case rel => exact ⟨j + 1, by omega, hjl, by simp, HE.out, by rw [HSG.out]; exact hV3⟩
              case measure => simp [restQ]; omega
      · have HE := HE rfl
        clear HO
        by_cases h65 : x < 65
        · rw [if_neg (by omega)] at hlow
          subst hlow
          go_wp2_with (first | (go_at_call 18; refine (HL.out _).mono ?_; rintro e w' ⟨rfl, hw⟩; have hw := hw.symm; subst hw) | (go_at_call 20; refine (HD.out _).mono ?_; rintro e w' ⟨rfl, hw⟩; have hw := hw.symm; subst hw) | (refine wpList_append_bts rfl (.tmp 38) (.tmp 40) rfl w1 _ _ _ _ rfl rfl (HB.out.alloc _) (HX.out _) hal ?_; intro u3 W3 hV3 hg3))
          go_roundw
          case rel => exact ⟨j + 1, by omega, hjl, by simp, HE.out, by rw [HSG.out]; exact hV3⟩
          case measure => simp [restQ]; omega
        · by_cases h90 : 90 < x
          · rw [if_neg (by omega)] at hlow
            subst hlow
            go_wp2_with (first | (go_at_call 18; refine (HL.out _).mono ?_; rintro e w' ⟨rfl, hw⟩; have hw := hw.symm; subst hw) | (go_at_call 20; refine (HD.out _).mono ?_; rintro e w' ⟨rfl, hw⟩; have hw := hw.symm; subst hw) | (refine wpList_append_bts rfl (.tmp 38) (.tmp 40) rfl w1 _ _ _ _ rfl rfl (HB.out.alloc _) (HX.out _) hal ?_; intro u3 W3 hV3 hg3))
            go_roundw
            case rel => exact ⟨j + 1, by omega, hjl, by simp, HE.out, by rw [HSG.out]; exact hV3⟩
            case measure => simp [restQ]; omega
          · rw [if_pos (by omega)] at hlow
            subst hlow
            go_wp2_with (first | (go_at_call 18; refine (HL.out _).mono ?_; rintro e w' ⟨rfl, hw⟩; have hw := hw.symm; subst hw) | (go_at_call 20; refine (HD.out _).mono ?_; rintro e w' ⟨rfl, hw⟩; have hw := hw.symm; subst hw) | (refine wpList_append_bts rfl (.tmp 38) (.tmp 40) rfl w1 _ _ _ _ rfl rfl (HB.out.alloc _) (HX.out _) hal ?_; intro u3 W3 hV3 hg3))
            go_roundw
            case rel => exact ⟨j + 1, by omega, hjl, by simp, HE.out, by rw [HSG.out]; exact hV3⟩
            case measure => simp [restQ]; omega
    · obtain rfl : j = s.size := by omega
      obtain rfl : s.size = E := by rw [← hE]; exact (runTo_out (by rw [kdAt_over (by rw [HLEN.out]; exact Nat.le_refl _)]; rfl)).symm
      obtain ⟨ao, cc, hu, hc1, hc2⟩ := HB.out.sl.len
      have hl : (Lib.toLowerA (seg s.data.toList i0 s.size)).length = s.size - i0 := by rw [Lib.toLowerA, List.length_map, seg_length (by rw [HLEN.out]; exact hj)]
      rw [hl] at hu hc1
      subst hu
      have hbox := (HB.out.below.block N (lt_of_heap HBX.out)).trans HBX.out
      have HBW := hide (HW1.out.trans (HB.out.below.mono (Nat.le_of_lt (lt_of_heap HBX.out))))
      have hcv := run_str HB.out.sl
      have c0 := cell_row (o := 0) hbox
      have c1 := cell_row (o := 1) hbox
      have c2 := cell_row (o := 2) hbox
      have c3 := cell_row (o := 3) hbox
      have f0 : ∀ k, wr.frozen? ⟨N, k, none⟩ = false := fun k => frozen_row hbox
      simp only [List.getElem?_toArray, List.getElem?_cons_zero, List.getElem?_cons_succ] at c0 c1 c2 c3
      have HBOX := hide hbox
      have HDEC : Hid (decide (((s.size - i0 : Nat) : Int) ≤ 32) = decide (s.size - i0 ≤ 32)) := decide_eq_decide.2 (by omega)
      clear hbox hl
      go_wp2
      refine bodyPost_ret (v := .tuple #[tokV ⟨1, Lib.toLowerA (seg s.data.toList i0 s.size), 0, i0⟩, .int .i64 (s.size : Int), .bool (decide (((s.size - i0 : Nat) : Int) ≤ 32))]) (results_rec Tryd.results19 _ _ N 29 _ (0, 0) _ rfl (set4 HBOX.out _ _ _ _) Tryd.underlying29 rfl Tryd.size29) rfl ?_
      rw [HDEC.out]
      exact ⟨rfl, by rw [hN]; exact below4 HBW.out _ _ _ _⟩
end Go.Proofs.YtnbegpfbolkdiaaDoor
