/- The law FileApart, walked. -/
import Derived.Test.YtkdlggobbkedmaaFIn
namespace Go.Proofs.Ytkdlggobbkedmaa
open Go.RowKit
set_option linter.unusedVariables false
set_option linter.unusedSimpArgs false

def want (Z : List Int) (j : Nat) : List UInt8 := if 0 < Z.getD j 0 then pg 5 (Z.getD j 0) else zerosN 512
theorem length_want (Z : List Int) (j : Nat) : (want Z j).length = 512 := by
  unfold want
  split
  · exact length_pg _ _
  · exact length_zerosN _
structure ApInv (Z : List Int) (D : Dv) : Prop where
  well : D.well
  W : D.W = []
  L : D.L.length = 40
  seven : Z.length = 7
  pages : ∀ j, j < 7 → pageL D.L (3 + 5 + 4 * j) = want Z j
theorem apInv_write {Z : List Int} {D : Dv} (h : ApInv Z D) (P : Nat) (K : Int) (hP : P < 7) (hK : 0 < K) : ∃ E, D.carJ 3 P (pg 5 K) = (0, E) ∧ ApInv (Z.set P K) E := by
  obtain ⟨E, h1, h2, h3, h4, h5⟩ := carJ_well h.well h.W 3 P 7 (pg 5 K) (length_pg _ _) (by rw [h.L]; omega) hP
  refine ⟨E, h1, h2, h3, by rw [h4, length_wroteL, h.L], by rw [List.length_set, h.seven], fun j hj => ?_⟩
  rw [h4, page_wroteL _ 3 P j 7 _ (length_pg _ _) (by rw [h.L]; omega) hP hj]
  have h7 := h.seven
  by_cases e : j = P
  · subst e
    rw [if_pos rfl]
    have e2 : (Z.set j K).getD j 0 = K := by simp [show j < Z.length by omega]
    unfold want
    rw [e2, if_pos hK]
  · rw [if_neg e, h.pages j hj]
    have e2 : (Z.set P K).getD j 0 = Z.getD j 0 := by
      simp only [List.getD_eq_getElem?_getD]
      rw [List.getElem?_set_ne (fun h => e h.symm)]
    unfold want
    rw [e2]
theorem apInv_read {Z : List Int} {D : Dv} (h : ApInv Z D) (j : Nat) (hj : j < 7) : D.four (3 + 5 + 4 * j) = want Z j ∧ ApInv Z (D.more 4) := by
  refine ⟨by rw [four_L h.W, h.pages j hj], well_more h.well 4, by rw [more_W, h.W], by rw [more_L, h.L], h.seven, fun i hi => by rw [more_L]; exact h.pages i hi⟩
theorem apInv_fresh : ApInv [0, 0, 0, 0, 0, 0, 0] ((Dv.fresh 40).more 1) := by
  refine ⟨well_more (fresh_well 40 (by omega) (by omega)) 1, by rw [more_W]; rfl, by rw [more_L]; simp [Dv.fresh], rfl, fun j hj => ?_⟩
  rw [more_L, fresh_page 40 _ (by omega)]
  have : j = 0 ∨ j = 1 ∨ j = 2 ∨ j = 3 ∨ j = 4 ∨ j = 5 ∨ j = 6 := by omega
  rcases this with rfl | rfl | rfl | rfl | rfl | rfl | rfl <;> rfl

/-- The state behind some writes. -/
structure ApAt (w0 w : World) (q p gi : Nat) (Z : List Int) : Prop where
  dv : ∃ D, Fs w0 w q p 3 7 false [gi] D ∧ ApInv Z D
  own : Own w gi 30 Z
  gi0 : w0.heap.size ≤ gi
theorem ApAt.belowW {w0 w w' : World} {q p gi : Nat} {Z : List Int} (h : ApAt w0 w q p gi Z) (hb : Below w.heap.size w w') : ApAt w0 w' q p gi Z := by
  obtain ⟨D, h1, h2⟩ := h.dv
  exact ⟨⟨D, h1.belowW hb, h2⟩, h.own.belowW hb, h.gi0⟩
theorem ApAt.below {w0 w : World} {q p gi : Nat} {Z : List Int} (h : ApAt w0 w q p gi Z) : Below w0.heap.size w0 w := by
  obtain ⟨D, h1, h2⟩ := h.dv
  exact h1.below
theorem ApAt.seven {w0 w : World} {q p gi : Nat} {Z : List Int} (h : ApAt w0 w q p gi Z) : Z.length = 7 := by
  obtain ⟨D, h1, h2⟩ := h.dv
  exact h2.seven
theorem ApAt.set {w0 w : World} {q p gi : Nat} {Z : List Int} {D : Dv} (P : Nat) (K : Int) (h1 : Fs w0 w q p 3 7 false [gi] D) (h2 : ApInv (Z.set P K) D) (h3 : Own w gi 30 Z) (h4 : w0.heap.size ≤ gi) : ApAt w0 (w.setCell ⟨gi, P, none⟩ (.int .i64 K)) q p gi (Z.set P K) :=
  ⟨⟨D, h1.write (by simp) h4 ((Off.refl [gi] w).setCell _ _ (.inl (by simp))), h2⟩, h3.set P K, h4⟩
theorem ap_read {w0 w : World} {q p gi : Nat} {Z : List Int} (h : ApAt w0 w q p gi Z) (j : Nat) (hj : j < 7) :
    Calls Try.prog 10 #[.pointer (some ⟨q, 0, none⟩), .int .i64 (j : Int)] w fun e w' => ∃ g, e = .returned (.tuple #[.slice (some ⟨g, 0, none⟩) 512 512, .int .i64 0]) ∧
      w'.heap[g]? = some (.cells (secCells (want Z j)).toArray 5 (0, 0)) ∧ ApAt w0 w' q p gi Z := by
  obtain ⟨D, h1, h2⟩ := h.dv
  obtain ⟨r1, r2⟩ := apInv_read h2 j hj
  refine (b_read j h1 h2.well.live (by rw [h2.W]; simp) (by rw [h2.L]; omega) hj).mono ?_
  rw [r1]
  rintro e w' ⟨g, rfl, a1, a2, a3, a4⟩
  exact ⟨g, rfl, a2, ⟨⟨_, a3.mind (fun k hk => .inl (by simp at hk; simp [hk])), r2⟩, h.own.kept a4 (by simp), h.gi0⟩⟩
/-- A write, and what is left of the bytes. -/
theorem ap_write {w0 w : World} {q p gi g : Nat} {Z : List Int} (h : ApAt w0 w q p gi Z) (P : Nat) (K : Int) (hP : P < 7) (hK : 0 < K) (W : World) (hb : Below w.heap.size w W) (hg : w.heap.size ≤ g) (hs : W.heap[g]? = some (.cells (secCells (pg 5 K)).toArray 5 (0, 0))) :
    Calls Try.prog 9 #[.pointer (some ⟨q, 0, none⟩), .int .i64 (P : Int), .slice (some ⟨g, 0, none⟩) 512 512] W fun e w' => e = .returned (.int .i64 0) ∧
      (∃ D, Fs w0 w' q p 3 7 false [gi] D ∧ ApInv (Z.set P K) D) ∧ Own w' gi 30 Z ∧ w'.heap[g]? = some (.cells (secCells (pg 5 K)).toArray 5 (0, 0)) := by
  obtain ⟨D, h1, h2⟩ := h.dv
  obtain ⟨E, r1, r2⟩ := apInv_write h2 P K hP hK
  have hgl := (Array.getElem?_eq_some_iff.1 hs).1
  have hF := h1.mindNew (ys := [gi, g]) hb (fun k hk => by
    simp at hk
    rcases hk with rfl | rfl
    · exact .inl (by simp)
    · exact .inr ⟨hg, hgl⟩)
  have := b_write P g 512 (pg 5 K) hF (length_pg _ _) (by omega) (by simp) hs (by rw [h2.W]; simp) (by rw [h2.L]; omega) hP
  rw [r1] at this
  refine this.mono ?_
  rintro e w' ⟨rfl, a1, a2⟩
  exact ⟨rfl, ⟨E, a1.mind (fun k hk => .inl (by simp at hk; simp [hk])), r2⟩, (h.own.belowW hb).kept a2 (by simp), (a2.2 g (by simp)).trans hs⟩
theorem Try.zero30 (w : World) : (zeroValue 30).run Try.prog w = .ok (.agg #[.int .i64 0, .int .i64 0, .int .i64 0, .int .i64 0, .int .i64 0, .int .i64 0, .int .i64 0]) w := by kernel_rfl

theorem op_neqstrY (ρ : Operand → Value) (o : Oper) (x y : Operand) (tt : TypeId) (ho : o.op = .binOp .neq 9 x y tt) (Y : ByteArray) (hx : ρ x = .string Y) (hy : ρ y = .string Y) {w : World} : (execOp ρ o).run Try.prog w = .ok (.value (.bool false)) w := by
  have hu := Try.underlying9
  have he : (Y.toList == Y.toList) = true := by simp
  unfold execOp
  simp only [ho, hx, hy]
  simp [go_sem, hu, he]

set_option maxHeartbeats 4000000 in
set_option maxRecDepth 100000 in
theorem apart_walk (a0 : Option Addr) (len0 cap0 : Nat) (z0 : List Int) (a1 : Option Addr) (len1 cap1 : Nat) (z1 : List Int) (w : World) (w0 : IsInts w a0 len0 cap0 z0) (w1 : IsInts w a1 len1 cap1 z1) :
    Calls Try.prog 3 #[.slice a0 len0 cap0, .slice a1 len1 cap1] w fun e w' => e = .returned (.bool true) ∧ Below w.heap.size w w' := by
  have W0 := hide w0
  have W1 := hide w1
  have hl0 := w0.1
  have hl1 := w1.1
  clear w0 w1
  have hm0 := mend_idle (D := Dv.fresh 40) rfl rfl 3 7 (fresh_head 40 3 (by omega))
  go_enter Try.func3, Try.ntmps3
  go_wp2_with fail
  refine (b_new 40 w (by omega) (by omega)).mono ?_
  rintro e w1 ⟨p, rfl, hD1⟩
  have HOP := hide (b_openOk 3 7 hD1 (by omega) (by simp [Dv.fresh]) (by simp [Dv.fresh]) hm0)
  clear hD1 hm0
  go_wp2_with fail
  refine HOP.out.mono ?_
  rintro e w2 ⟨q, rfl, hF2, _⟩
  clear HOP
  have hgi : w.heap.size ≤ w2.heap.size := hF2.below.size
  have HA3 : Hid (∀ W, W = w2.alloc (.cells #[.int .i64 0, .int .i64 0, .int .i64 0, .int .i64 0, .int .i64 0, .int .i64 0, .int .i64 0] 30) → ApAt w W q p w2.heap.size [0, 0, 0, 0, 0, 0, 0]) := fun W hW => by
    subst hW
    refine ⟨⟨_, hF2.mindNew ((Below.refl _ _).alloc (Nat.le_refl _) _) (fun k hk => by simp at hk; exact .inr (by simp; omega)), apInv_fresh⟩, heap_alloc_new _ _, hgi⟩
  clear hF2 hgi
  have z30 := Try.zero30
  go_wp2_with fail
  go_loopw [10] (fun i wr => ∃ (k : Nat) (Z : List Int), k ≤ 20 ∧ i = .int .i64 k ∧ ApAt w wr q p w2.heap.size Z) (fun i _ => 21 - (intOf i).toNat)
  case atStart => exact ⟨0, [0, 0, 0, 0, 0, 0, 0], by omega, rfl, HA3.out _ rfl⟩
  case round =>
    clear HA3 z30
    generalize w2.heap.size = gi at *
    obtain ⟨k, Z, hk, rfl, hA⟩ := hrel
    have HA := hide hA
    clear hA
    by_cases hgo : k < len0 ∧ k < 20
    · obtain ⟨hlt, hk20⟩ := hgo
      obtain ⟨b, o, hab, hcell, _, _⟩ := ints_at W0.out HA.out.below k hlt
      subst hab
      obtain ⟨P, hP, hmod, hwr⟩ := mod_in (z0.getD k 0) 7 (by omega) (by omega)
      have hmod : ((z0.getD k 0).tmod 7 + 7).tmod 7 = (P : Int) := hmod
      have hwr : IntKind.i64.wrap ((z0.getD k 0).tmod 7 + 7) = (z0.getD k 0).tmod 7 + 7 := hwr
      generalize z0.getD k 0 = z at *
      by_cases hby : k < len1
      · obtain ⟨b1, o1, hab1, hcell1, _, _⟩ := ints_at W1.out HA.out.below k hby
        subst hab1
        obtain ⟨n, hn⟩ : ∃ n : Nat, bits .and .i64 (z1.getD k 0) 127 = (n : Int) ∧ n < 128 := ⟨(z1.getD k 0 % 128).toNat, by rw [and127]; omega, by omega⟩
        obtain ⟨hn, hn128⟩ := hn
        generalize z1.getD k 0 = y1 at *
        clear W0 W1
        go_wp2_with fail
        refine (page_any 5 ((n : Int) + 1) wr).mono ?_
        rintro e w4 ⟨rfl, hg4, hb4⟩
        have HWR := hide (fun d => ap_write HA.out P ((n : Int) + 1) hP (by omega) (w4.drewN d) (hb4.trans (below_drewN _ _ d)) (Nat.le_refl _) hg4)
        have HS7 := hide HA.out.seven
        have HGI := hide HA.out.gi0
        obtain ⟨X, hX⟩ : ∃ X, pg 5 ((n : Int) + 1) = X := ⟨_, rfl⟩
        have HPG := hide (fun W => page_any 5 ((n : Int) + 1) W)
        have HXL : Hid (X.length = 512) := by show _ = _; rw [← hX]; exact length_pg _ _
        rw [hX] at hg4 HWR HPG
        clear hX hcell hcell1 hn hb4
        go_wp2
        refine wp_region_held_drew (S := fun w' => w'.heap[wr.heap.size]? = some (.cells (secCells X).toArray 5 (0, 0))) (by kernel_rfl) hg4 (fun hH => ?_)
        refine take_to 0 66 (.pointer (some ⟨q, 0, none⟩)) rfl (by kernel_rfl) (by kernel_rfl) (by kernel_rfl) (fun _ _ _ h => h) rfl (by rfl) (fun w hw => by rfl) hH ?_
        simp only [Act.put, List.setIfInBounds_toArray, List.set_cons_zero, List.set_cons_succ]
        refine take_to 1 67 (.int .i64 (P : Int)) rfl (by kernel_rfl) (by kernel_rfl) (by kernel_rfl) (fun _ _ _ h => h) rfl (by rfl) (fun w hw => by rfl) hH ?_
        simp only [Act.put, List.setIfInBounds_toArray, List.set_cons_zero, List.set_cons_succ]
        refine take_to 2 68 (.slice (some ⟨wr.heap.size, 0, none⟩) 512 512) rfl (by kernel_rfl) (by kernel_rfl) (by kernel_rfl) (fun _ _ _ h => h) rfl (by rfl) (fun w hw => by rfl) hH ?_
        simp only [Act.put, List.setIfInBounds_toArray, List.set_cons_zero, List.set_cons_succ]
        refine step_call3_to 3 69 9 rfl (by kernel_rfl) rfl (by rfl) (.tmp 66) (.tmp 67) (.tmp 68) _ rfl _ _ _ rfl rfl rfl Try.enters9 (HWR.out 1) ?_
        rintro e w5 ⟨rfl, ⟨D5, hF5, hI5⟩, hO5, hg5⟩
        refine ⟨_, rfl, hg5, ?_⟩
        simp only [Act.put, List.setIfInBounds_toArray, List.set_cons_zero, List.set_cons_succ]
        refine take_to 4 70 (.bool false) rfl (by kernel_rfl) (by kernel_rfl) (by kernel_rfl) (fun _ _ _ h => h) rfl (by rfl) (fun w hw => op_neq24 _ _ (.tmp 69) _ 24 rfl _ _ rfl rfl _ (by rfl)) hg5 ?_
        simp only [Act.put, List.setIfInBounds_toArray, List.set_cons_zero, List.set_cons_succ]
        refine take_to 5 71 (.bool false) rfl (by kernel_rfl) (by kernel_rfl) (by kernel_rfl) (fun _ _ _ h => h) rfl (by rfl) (fun w hw => by rfl) hg5 ?_
        simp only [Act.put, List.setIfInBounds_toArray, List.set_cons_zero, List.set_cons_succ]
        refine take_to 6 72 (.slice (some ⟨wr.heap.size, 0, none⟩) 512 512) rfl (by kernel_rfl) (by kernel_rfl) (by kernel_rfl) (fun _ _ _ h => h) rfl (by rfl) (fun w hw => by rfl) hg5 ?_
        simp only [Act.put, List.setIfInBounds_toArray, List.set_cons_zero, List.set_cons_succ]
        refine take_to 7 73 (.string (strOf X)) rfl (by kernel_rfl) (by kernel_rfl) (by kernel_rfl) (fun _ _ _ h => h) rfl (by rfl) (fun w hw => op_conv _ _ 31 9 (.tmp 72) rfl _ _ rfl (run_str w _ 512 512 _ HXL.out hw)) hg5 ?_
        simp only [Act.put, List.setIfInBounds_toArray, List.set_cons_zero, List.set_cons_succ]
        refine take_to 8 74 (.int .i64 ((n : Int) + 1)) rfl (by kernel_rfl) (by kernel_rfl) (by kernel_rfl) (fun _ _ _ h => h) rfl (by rfl) (fun w hw => by rfl) hg5 ?_
        simp only [Act.put, List.setIfInBounds_toArray, List.set_cons_zero, List.set_cons_succ]
        refine step_call2_to 9 75 8 rfl (by kernel_rfl) rfl (by rfl) (.const (.int .i64 5)) (.tmp 74) _ rfl _ _ rfl rfl Try.enters8 (HPG.out _) ?_
        rintro e w6 ⟨rfl, hg6, hb6⟩
        have hg56 := (hb6.block _ (Array.getElem?_eq_some_iff.1 hg5).1).trans hg5
        refine ⟨_, rfl, hg56, ?_⟩
        simp only [Act.put, List.setIfInBounds_toArray, List.set_cons_zero, List.set_cons_succ]
        refine step_to 10 76 (.string (strOf X)) w6 rfl (by kernel_rfl) rfl (by rfl) (op_conv _ _ 31 9 (.tmp 75) rfl _ _ rfl (run_str w6 _ 512 512 _ HXL.out hg6)) hg56 ?_
        simp only [Act.put, List.setIfInBounds_toArray, List.set_cons_zero, List.set_cons_succ]
        refine step_to 11 77 (.bool false) w6 rfl (by kernel_rfl) rfl (by rfl) (op_neqstrY _ _ (.tmp 73) (.tmp 76) 9 rfl _ rfl rfl) hg56 ?_
        simp only [Act.put, List.setIfInBounds_toArray, List.set_cons_zero, List.set_cons_succ]
        refine step_to 12 78 (.bool false) w6 rfl (by kernel_rfl) rfl (by rfl) (rfl) hg56 ?_
        simp only [Act.put, List.setIfInBounds_toArray, List.set_cons_zero, List.set_cons_succ]
        refine wpAnyH_done (by kernel_rfl) ?_ _
        have hO6 := hO5.belowW hb6
        have c6 := hO6.cell P (by rw [HS7.out]; exact hP)
        have f6 := hO6.fz P
        have HA7 := hide (ApAt.set (q := q) (p := p) P ((n : Int) + 1) (hF5.belowW hb6) hI5 hO6 HGI.out)
        clear hH hg5 hg56 hg6 hb6 hO6 hO5 hF5 hI5 HWR HPG hg4
        generalize Z.getD P 0 = zp at *
        go_wp2_with fail
        go_loopw [14] (fun j wx => ∃ m : Nat, m ≤ 7 ∧ j = .int .i64 m ∧ ApAt w wx q p gi (Z.set P ((n : Int) + 1))) (fun j _ => 8 - (intOf j).toNat)
        case atStart => exact ⟨0, by omega, rfl, HA7.out⟩
        case round =>
          clear HA7 c6 f6 zp
          generalize Z.set P ((n : Int) + 1) = Y at *
          obtain ⟨m, hm, rfl, hB⟩ := hrel
          have HB := hide hB
          clear hB
          by_cases hm7 : m < 7
          · have HRD := hide (ap_read HB.out m hm7)
            clear HB
            go_wp2_with fail
            refine HRD.out.mono ?_
            rintro e w7 ⟨gx, rfl, hgx, hB7⟩
            clear HRD
            have hb8 : Below w7.heap.size w7 (w7.alloc (.cells (secCells (zerosN 512)).toArray 5)) := (Below.refl _ _).alloc (Nat.le_refl _) _
            have hz8 : (w7.alloc (.cells (secCells (zerosN 512)).toArray 5)).heap[w7.heap.size]? = some (.cells (secCells (zerosN 512)).toArray 5 (0, 0)) := heap_alloc_new _ _
            have hgx8 := (hb8.block gx (Array.getElem?_eq_some_iff.1 hgx).1).trans hgx
            have hB8 := hB7.belowW hb8
            obtain ⟨w8, hw8⟩ : ∃ w8, w7.alloc (.cells (secCells (zerosN 512)).toArray 5) = w8 := ⟨_, rfl⟩
            have hmk : (Instr.makeSlice 31 (.int .i64 512) (.int .i64 512)).run Try.prog w7 = .ok (.slice (some ⟨w7.heap.size, 0, none⟩) 512 512) w8 := by rw [← hw8]; exact makeN 512 (by omega) w7
            rw [hw8] at hb8 hz8 hgx8 hB8
            clear hw8 hgx hB7
            have c8 := hB8.own.cell m (by rw [hB8.seven]; exact hm7)
            have HLW := hide (length_want Y m)
            by_cases hpos : 0 < Y.getD m 0
            · have hwant : want Y m = pg 5 (Y.getD m 0) := by unfold want; rw [if_pos hpos]
              have HW := hide hwant
              have HB8 := hide hB8
              have HG8 := hide hgx8
              clear hwant hB8 hgx8 hb8 hz8
              generalize Y.getD m 0 = y at *
              go_wp2_with fail
              refine (page_any 5 y w8).mono ?_
              rintro e w9 ⟨rfl, hg9, hb9⟩
              rw [← HW.out] at hg9
              have st1 := run_str w9 gx 512 512 _ HLW.out ((hb9.block gx (Array.getElem?_eq_some_iff.1 HG8.out).1).trans HG8.out)
              have st2 := run_str w9 w8.heap.size 512 512 _ HLW.out hg9
              have HB9 := hide (HB8.out.belowW hb9)
              generalize strOf (want Y m) = S at *
              clear hg9 hb9 HG8 HW c8
              go_wp2_with fail
              go_roundw
              case rel => exact ⟨m + 1, by omega, by go_num, HB9.out⟩
              case measure => simp [intOf]; omega
            · have hwant : want Y m = zerosN 512 := by unfold want; rw [if_neg hpos]
              have st1 := run_str w8 gx 512 512 _ HLW.out hgx8
              rw [← hwant] at hz8
              have st2 := run_str w8 w7.heap.size 512 512 _ HLW.out hz8
              have HB8 := hide hB8
              generalize strOf (want Y m) = S at *
              clear hwant hB8 hgx8 hb8 hz8
              generalize Y.getD m 0 = y at *
              go_wp2_with fail
              go_roundw
              case rel => exact ⟨m + 1, by omega, by go_num, HB8.out⟩
              case measure => simp [intOf]; omega
          · go_wp2_with fail
            go_roundw
            case rel => exact ⟨k + 1, Y, by omega, by go_num, HB.out⟩
            case measure => simp [intOf]; omega

      · clear W0 W1
        go_wp2_with fail
        refine (page_any 5 ((k : Int) + 1) wr).mono ?_
        rintro e w4 ⟨rfl, hg4, hb4⟩
        have HWR := hide (fun d => ap_write HA.out P ((k : Int) + 1) hP (by omega) (w4.drewN d) (hb4.trans (below_drewN _ _ d)) (Nat.le_refl _) hg4)
        have HS7 := hide HA.out.seven
        have HGI := hide HA.out.gi0
        obtain ⟨X, hX⟩ : ∃ X, pg 5 ((k : Int) + 1) = X := ⟨_, rfl⟩
        have HPG := hide (fun W => page_any 5 ((k : Int) + 1) W)
        have HXL : Hid (X.length = 512) := by show _ = _; rw [← hX]; exact length_pg _ _
        rw [hX] at hg4 HWR HPG
        clear hX hcell hb4
        go_wp2
        refine wp_region_held_drew (S := fun w' => w'.heap[wr.heap.size]? = some (.cells (secCells X).toArray 5 (0, 0))) (by kernel_rfl) hg4 (fun hH => ?_)
        refine take_to 0 66 (.pointer (some ⟨q, 0, none⟩)) rfl (by kernel_rfl) (by kernel_rfl) (by kernel_rfl) (fun _ _ _ h => h) rfl (by rfl) (fun w hw => by rfl) hH ?_
        simp only [Act.put, List.setIfInBounds_toArray, List.set_cons_zero, List.set_cons_succ]
        refine take_to 1 67 (.int .i64 (P : Int)) rfl (by kernel_rfl) (by kernel_rfl) (by kernel_rfl) (fun _ _ _ h => h) rfl (by rfl) (fun w hw => by rfl) hH ?_
        simp only [Act.put, List.setIfInBounds_toArray, List.set_cons_zero, List.set_cons_succ]
        refine take_to 2 68 (.slice (some ⟨wr.heap.size, 0, none⟩) 512 512) rfl (by kernel_rfl) (by kernel_rfl) (by kernel_rfl) (fun _ _ _ h => h) rfl (by rfl) (fun w hw => by rfl) hH ?_
        simp only [Act.put, List.setIfInBounds_toArray, List.set_cons_zero, List.set_cons_succ]
        refine step_call3_to 3 69 9 rfl (by kernel_rfl) rfl (by rfl) (.tmp 66) (.tmp 67) (.tmp 68) _ rfl _ _ _ rfl rfl rfl Try.enters9 (HWR.out 1) ?_
        rintro e w5 ⟨rfl, ⟨D5, hF5, hI5⟩, hO5, hg5⟩
        refine ⟨_, rfl, hg5, ?_⟩
        simp only [Act.put, List.setIfInBounds_toArray, List.set_cons_zero, List.set_cons_succ]
        refine take_to 4 70 (.bool false) rfl (by kernel_rfl) (by kernel_rfl) (by kernel_rfl) (fun _ _ _ h => h) rfl (by rfl) (fun w hw => op_neq24 _ _ (.tmp 69) _ 24 rfl _ _ rfl rfl _ (by rfl)) hg5 ?_
        simp only [Act.put, List.setIfInBounds_toArray, List.set_cons_zero, List.set_cons_succ]
        refine take_to 5 71 (.bool false) rfl (by kernel_rfl) (by kernel_rfl) (by kernel_rfl) (fun _ _ _ h => h) rfl (by rfl) (fun w hw => by rfl) hg5 ?_
        simp only [Act.put, List.setIfInBounds_toArray, List.set_cons_zero, List.set_cons_succ]
        refine take_to 6 72 (.slice (some ⟨wr.heap.size, 0, none⟩) 512 512) rfl (by kernel_rfl) (by kernel_rfl) (by kernel_rfl) (fun _ _ _ h => h) rfl (by rfl) (fun w hw => by rfl) hg5 ?_
        simp only [Act.put, List.setIfInBounds_toArray, List.set_cons_zero, List.set_cons_succ]
        refine take_to 7 73 (.string (strOf X)) rfl (by kernel_rfl) (by kernel_rfl) (by kernel_rfl) (fun _ _ _ h => h) rfl (by rfl) (fun w hw => op_conv _ _ 31 9 (.tmp 72) rfl _ _ rfl (run_str w _ 512 512 _ HXL.out hw)) hg5 ?_
        simp only [Act.put, List.setIfInBounds_toArray, List.set_cons_zero, List.set_cons_succ]
        refine take_to 8 74 (.int .i64 ((k : Int) + 1)) rfl (by kernel_rfl) (by kernel_rfl) (by kernel_rfl) (fun _ _ _ h => h) rfl (by rfl) (fun w hw => by rfl) hg5 ?_
        simp only [Act.put, List.setIfInBounds_toArray, List.set_cons_zero, List.set_cons_succ]
        refine step_call2_to 9 75 8 rfl (by kernel_rfl) rfl (by rfl) (.const (.int .i64 5)) (.tmp 74) _ rfl _ _ rfl rfl Try.enters8 (HPG.out _) ?_
        rintro e w6 ⟨rfl, hg6, hb6⟩
        have hg56 := (hb6.block _ (Array.getElem?_eq_some_iff.1 hg5).1).trans hg5
        refine ⟨_, rfl, hg56, ?_⟩
        simp only [Act.put, List.setIfInBounds_toArray, List.set_cons_zero, List.set_cons_succ]
        refine step_to 10 76 (.string (strOf X)) w6 rfl (by kernel_rfl) rfl (by rfl) (op_conv _ _ 31 9 (.tmp 75) rfl _ _ rfl (run_str w6 _ 512 512 _ HXL.out hg6)) hg56 ?_
        simp only [Act.put, List.setIfInBounds_toArray, List.set_cons_zero, List.set_cons_succ]
        refine step_to 11 77 (.bool false) w6 rfl (by kernel_rfl) rfl (by rfl) (op_neqstrY _ _ (.tmp 73) (.tmp 76) 9 rfl _ rfl rfl) hg56 ?_
        simp only [Act.put, List.setIfInBounds_toArray, List.set_cons_zero, List.set_cons_succ]
        refine step_to 12 78 (.bool false) w6 rfl (by kernel_rfl) rfl (by rfl) (rfl) hg56 ?_
        simp only [Act.put, List.setIfInBounds_toArray, List.set_cons_zero, List.set_cons_succ]
        refine wpAnyH_done (by kernel_rfl) ?_ _
        have hO6 := hO5.belowW hb6
        have c6 := hO6.cell P (by rw [HS7.out]; exact hP)
        have f6 := hO6.fz P
        have HA7 := hide (ApAt.set (q := q) (p := p) P ((k : Int) + 1) (hF5.belowW hb6) hI5 hO6 HGI.out)
        clear hH hg5 hg56 hg6 hb6 hO6 hO5 hF5 hI5 HWR HPG hg4
        generalize Z.getD P 0 = zp at *
        go_wp2_with fail
        go_loopw [14] (fun j wx => ∃ m : Nat, m ≤ 7 ∧ j = .int .i64 m ∧ ApAt w wx q p gi (Z.set P ((k : Int) + 1))) (fun j _ => 8 - (intOf j).toNat)
        case atStart => exact ⟨0, by omega, rfl, HA7.out⟩
        case round =>
          clear HA7 c6 f6 zp
          generalize Z.set P ((k : Int) + 1) = Y at *
          obtain ⟨m, hm, rfl, hB⟩ := hrel
          have HB := hide hB
          clear hB
          by_cases hm7 : m < 7
          · have HRD := hide (ap_read HB.out m hm7)
            clear HB
            go_wp2_with fail
            refine HRD.out.mono ?_
            rintro e w7 ⟨gx, rfl, hgx, hB7⟩
            clear HRD
            have hb8 : Below w7.heap.size w7 (w7.alloc (.cells (secCells (zerosN 512)).toArray 5)) := (Below.refl _ _).alloc (Nat.le_refl _) _
            have hz8 : (w7.alloc (.cells (secCells (zerosN 512)).toArray 5)).heap[w7.heap.size]? = some (.cells (secCells (zerosN 512)).toArray 5 (0, 0)) := heap_alloc_new _ _
            have hgx8 := (hb8.block gx (Array.getElem?_eq_some_iff.1 hgx).1).trans hgx
            have hB8 := hB7.belowW hb8
            obtain ⟨w8, hw8⟩ : ∃ w8, w7.alloc (.cells (secCells (zerosN 512)).toArray 5) = w8 := ⟨_, rfl⟩
            have hmk : (Instr.makeSlice 31 (.int .i64 512) (.int .i64 512)).run Try.prog w7 = .ok (.slice (some ⟨w7.heap.size, 0, none⟩) 512 512) w8 := by rw [← hw8]; exact makeN 512 (by omega) w7
            rw [hw8] at hb8 hz8 hgx8 hB8
            clear hw8 hgx hB7
            have c8 := hB8.own.cell m (by rw [hB8.seven]; exact hm7)
            have HLW := hide (length_want Y m)
            by_cases hpos : 0 < Y.getD m 0
            · have hwant : want Y m = pg 5 (Y.getD m 0) := by unfold want; rw [if_pos hpos]
              have HW := hide hwant
              have HB8 := hide hB8
              have HG8 := hide hgx8
              clear hwant hB8 hgx8 hb8 hz8
              generalize Y.getD m 0 = y at *
              go_wp2_with fail
              refine (page_any 5 y w8).mono ?_
              rintro e w9 ⟨rfl, hg9, hb9⟩
              rw [← HW.out] at hg9
              have st1 := run_str w9 gx 512 512 _ HLW.out ((hb9.block gx (Array.getElem?_eq_some_iff.1 HG8.out).1).trans HG8.out)
              have st2 := run_str w9 w8.heap.size 512 512 _ HLW.out hg9
              have HB9 := hide (HB8.out.belowW hb9)
              generalize strOf (want Y m) = S at *
              clear hg9 hb9 HG8 HW c8
              go_wp2_with fail
              go_roundw
              case rel => exact ⟨m + 1, by omega, by go_num, HB9.out⟩
              case measure => simp [intOf]; omega
            · have hwant : want Y m = zerosN 512 := by unfold want; rw [if_neg hpos]
              have st1 := run_str w8 gx 512 512 _ HLW.out hgx8
              rw [← hwant] at hz8
              have st2 := run_str w8 w7.heap.size 512 512 _ HLW.out hz8
              have HB8 := hide hB8
              generalize strOf (want Y m) = S at *
              clear hwant hB8 hgx8 hb8 hz8
              generalize Y.getD m 0 = y at *
              go_wp2_with fail
              go_roundw
              case rel => exact ⟨m + 1, by omega, by go_num, HB8.out⟩
              case measure => simp [intOf]; omega
          · go_wp2_with fail
            go_roundw
            case rel => exact ⟨k + 1, Y, by omega, by go_num, HB.out⟩
            case measure => simp [intOf]; omega

    · by_cases h1 : k < len0
      · have h2 : ¬ k < 20 := fun h => hgo ⟨h1, h⟩
        clear W0 W1
        obtain ⟨D, hF, hI⟩ := HA.out.dv
        have HRA := hide (b_readArg 7 hF (.inr (by omega)))
        have HPE := hide (b_pending hF.devX)
        rw [hI.W] at HPE
        have HAW := hide (awake_true wr)
        have HBE := hide hF.below
        clear hF hI HA
        go_wp2_with (first
          | (go_at_call 10; refine HRA.out.mono ?_; rintro e w' ⟨rfl, hw⟩; have hw := hw.symm; subst hw)
          | (go_at_call 11; refine HPE.out.mono ?_; rintro e w' ⟨rfl, hw⟩; have hw := hw.symm; subst hw)
          | (go_at_call 12; refine HAW.out.mono ?_; rintro e w' ⟨rfl, hbw⟩))
        go_ret
        exact ⟨rfl, HBE.out.trans (hbw.mono HBE.out.size)⟩

      · clear W0 W1
        obtain ⟨D, hF, hI⟩ := HA.out.dv
        have HRA := hide (b_readArg 7 hF (.inr (by omega)))
        have HPE := hide (b_pending hF.devX)
        rw [hI.W] at HPE
        have HAW := hide (awake_true wr)
        have HBE := hide hF.below
        clear hF hI HA
        go_wp2_with (first
          | (go_at_call 10; refine HRA.out.mono ?_; rintro e w' ⟨rfl, hw⟩; have hw := hw.symm; subst hw)
          | (go_at_call 11; refine HPE.out.mono ?_; rintro e w' ⟨rfl, hw⟩; have hw := hw.symm; subst hw)
          | (go_at_call 12; refine HAW.out.mono ?_; rintro e w' ⟨rfl, hbw⟩))
        go_ret
        exact ⟨rfl, HBE.out.trans (hbw.mono HBE.out.size)⟩

end Go.Proofs.Ytkdlggobbkedmaa
