/- SlotPlays' walk. -/
import Derived.Test.YtdddeneppciiiaaReads
namespace Go.Proofs.Ytdddeneppciiiaa
open Go.RowKit
set_option linter.unusedVariables false
set_option linter.unusedSimpArgs false

/-- The k-th call of a script that came in. -/
structure OpAt (w : World) (b o k : Nat) (K I : Int) (dv : Value) (d : List UInt8) : Prop where
  cells : w.rangeAt b (o + k * 3) [.int .i64 K, .int .i64 I, dv]
  data : Sl w dv d
def OpsIn (w : World) (a : Option Addr) (len : Nat) : Prop :=
  len ≤ 9223372036854775807 ∧ ∀ k, k < len → ∃ b o, a = some ⟨b, o, none⟩ ∧ b < w.heap.size ∧ ∃ K I dv d, OpAt w b o k K I dv d
theorem Try.size41 : (Try.prog.info? 41).map (·.size) = some 3 := by kernel_rfl
theorem RPutEnd.short {w : World} {r : Int × Option (Nat × List UInt8)} {e : Ending} {w' : World} (h : RPutEnd w r e w') : (pxOf r).length ≤ 504 := by
  obtain ⟨n, o⟩ := r
  obtain ⟨hb, h⟩ := h
  cases o with
  | none => exact Nat.zero_le _
  | some p =>
    obtain ⟨k, X⟩ := p
    obtain ⟨a, c, rfl, hs⟩ := h
    obtain ⟨a', c', e3⟩ := sl_form hs
    have e4 : 504 = X.length := by injection e3
    show X.length ≤ 504
    omega
theorem REnd.short {w : World} {r : Int × Option (List UInt8)} {e : Ending} {w' : World} (h : REnd w r e w') : (dxOf r).length ≤ 504 := by
  obtain ⟨n, o⟩ := r
  obtain ⟨hb, h⟩ := h
  cases o with
  | none => exact Nat.zero_le _
  | some X =>
    obtain ⟨a, c, rfl, hs⟩ := h
    obtain ⟨a', c', e3⟩ := sl_form hs
    have e4 : 504 = X.length := by injection e3
    show X.length ≤ 504
    omega
theorem setNext_short {bs : List UInt8} (h : bs.length ≤ 504) (n : Int) : (setNextOf bs n).length ≤ 504 := by
  unfold setNextOf
  cases hd : dec bs with
  | none => exact h
  | some g =>
    show (if 0 ≤ n ∧ n ≤ 4294967295 then Pg.enc ⟨n.toNat, g.sl⟩ else bs).length ≤ 504
    split
    · exact Nat.le_of_eq (length_enc ⟨n.toNat, g.sl⟩ (enc_dec hd).1.size)
    · exact h
set_option maxHeartbeats 8000000 in
set_option maxRecDepth 100000 in
theorem plays_walk (a0 : Option Addr) (len0 cap0 : Nat) (w : World) (h0 : OpsIn w a0 len0) :
    Calls Try.prog 4 #[.slice a0 len0 cap0] w fun e w' => e = .returned (.bool true) ∧ Below w.heap.size w w' := by
  have H0 := hide h0
  have hl0 := h0.1
  clear h0
  have HN := hide (new_any w)
  go_enter Try.func4, Try.ntmps4
  go_wp2_with fail
  refine HN.out.mono ?_
  rintro e W1 ⟨q1, rfl, hs1, hb1⟩
  have HS1 := hide hs1
  have HB1 := hide hb1
  have HN2 := hide (rnew_any W1)
  clear HN hs1 hb1
  go_wp2_with (go_at_call 18; refine HN2.out.mono ?_; rintro e W2 ⟨a2, c2, rfl, hs2, hb2⟩)
  have HS2 := hide hs2
  have HS12 := hide (HS1.out.belowW hb2)
  have HB2 := hide (HB1.out.trans (hb2.mono HB1.out.size))
  have hz : Pg.zero.enc.length = 504 := by kernel_rfl
  clear hs2 hb2 HN2 HS1 HB1
  go_loopw [5, 3, 4] (fun i p q wr => ∃ (k : Nat) (bs : List UInt8) (ap : Option Addr) (cp : Nat) (aq : Option Addr) (cq : Nat), k ≤ 80 ∧ i = .int .i64 (k : Int) ∧ p = .slice ap bs.length cp ∧ q = .slice aq bs.length cq ∧ bs.length ≤ 504 ∧ Sl wr (.slice ap bs.length cp) bs ∧ Sl wr (.slice aq bs.length cq) bs ∧ Below w.heap.size w wr) (fun i _ _ _ => 80 - (intOf i).toNat)
  case atStart =>
    have h1 := HS12.out
    have h2 := HS2.out
    exact ⟨0, Pg.zero.enc, some ⟨q1, 0, none⟩, 504, a2, c2, by omega, rfl, by rw [hz], by rw [hz], by omega, by rw [hz]; exact h1, by rw [hz]; exact h2, HB2.out⟩
  case round =>
    obtain ⟨k, bs, ap, cp, aq, cq, hk, rfl, rfl, rfl, hbl, hp, hq, hb⟩ := hrel
    have HP := hide hp
    have HQ := hide hq
    have HB := hide hb
    clear hp hq hb HS12 HS2 HB2 hz
    by_cases hgo : k < len0 ∧ k < 80
    · obtain ⟨hlt, hk80⟩ := hgo
      obtain ⟨b, o, rfl, hbs, K, I, dv, d, hop⟩ := H0.out.2 k hlt
      obtain ⟨da, dc, rfl⟩ := sl_form hop.data
      have HR3 : Hid (wr.rangeAt b (o + k * 3) [.int .i64 K, .int .i64 I, .slice da d.length dc]) := fun j v hv => (HB.out.cell (p := ⟨b, o + k * 3 + j, none⟩) hbs).trans (hop.cells j v hv)
      have HD := hide (hop.data.belowW HB.out)
      clear hop
      have HL := hide hbl
      clear hbl
      go_upto_block 2 with (refine wpList_load_mid rfl 41 _ rfl b (o + k * 3) rfl [.int .i64 K, .int .i64 I, .slice da d.length dc] _ HR3.out Try.underlying41 rfl Try.size41 ?_)
      generalize hx1 : wr.alloc _ = x1
      have hG : x1.heap[wr.heap.size]? = some (.cells #[.int .i64 K, .int .i64 I, .slice da d.length dc] 41 (0, 0)) := by rw [← hx1]; exact heap_alloc_new _ _
      have hBx : Below wr.heap.size wr x1 := by rw [← hx1]; exact (Below.refl _ _).alloc (Nat.le_refl _) _
      have HPx := hide (HP.out.belowW hBx)
      have HQx := hide (HQ.out.belowW hBx)
      have HDx := hide (HD.out.belowW hBx)
      have HBx := hide (HB.out.trans (hBx.mono HB.out.size))
      clear hx1 hBx HR3 HP HQ HB HD
      have c0 : x1.cell? ⟨wr.heap.size, 0, none⟩ = some (.int .i64 K) := by rw [cell_row hG]; rfl
      have c1 : x1.cell? ⟨wr.heap.size, 1, none⟩ = some (.int .i64 I) := by rw [cell_row hG]; rfl
      have c2 : x1.cell? ⟨wr.heap.size, 2, none⟩ = some (.slice da d.length dc) := by rw [cell_row hG]; rfl
      clear hG
      generalize wr.heap.size = g at *
      have HAS : Hid (∀ U v1 v2 ys, Sl U v1 ys → Sl U v2 ys → Calls Try.prog 24 #[v1, v2, .int .i64 I] U fun e w' => e = .returned (.bool true) ∧ Below U.heap.size U w') := fun U v1 v2 ys a b => asks_any a b I
      by_cases e0 : K = 0
      · subst e0
        have HX : Hid (∀ U, Below x1.heap.size x1 U → Calls Try.prog 9 #[.slice ap bs.length cp, .slice da d.length dc] U fun e w' => ∃ a c, e = .returned (.tuple #[.int .i64 (pnOf (putOf bs d) : Int), .slice a (pxOf (putOf bs d)).length c, .int .i64 (peOf (putOf bs d))]) ∧ Sl w' (.slice a (pxOf (putOf bs d)).length c) (pxOf (putOf bs d)) ∧ Below U.heap.size U w') := fun U hb => (put_any (HPx.out.belowW hb) (HDx.out.belowW hb)).mono fun e w' h => h.form
        have HY : Hid (∀ U, Below x1.heap.size x1 U → Calls Try.prog 19 #[.slice aq bs.length cq, .slice da d.length dc] U fun e w' => (pxOf (putOf bs d)).length ≤ 504 ∧ ∃ a c, e = .returned (.agg #[.int .i64 (pnOf (putOf bs d) : Int), .slice a (pxOf (putOf bs d)).length c, .int .i64 (peOf (putOf bs d))]) ∧ Sl w' (.slice a (pxOf (putOf bs d)).length c) (pxOf (putOf bs d)) ∧ Below U.heap.size U w') := fun U hb => (rput_any (HQx.out.belowW hb) (HDx.out.belowW hb)).mono fun e w' h => ⟨h.short, h.form⟩
        generalize pnOf (putOf bs d) = n at *
        generalize pxOf (putOf bs d) = X at *
        generalize peOf (putOf bs d) = e1 at *
        go_wp2_with fail
        refine (HX.out _ (Below.refl _ _)).mono ?_
        rintro e W3 ⟨a3, c3, rfl, hs3, hb3⟩
        have d1 := (hb3.cell (World.block_lt_of_cell? _ _ c1)).trans c1
        have d2 := (hb3.cell (World.block_lt_of_cell? _ _ c2)).trans c2
        have HS3 := hide hs3
        have HB3 := hide hb3
        clear HX hs3 hb3
        go_wp2_with fail
        refine (HY.out _ HB3.out).mono ?_
        rintro e W4 ⟨hsh, a4, c4, rfl, hs4, hb4⟩
        have hba := (Below.refl W4.heap.size W4).alloc (Nat.le_refl _) (.cells #[.int .i64 (n : Int), .slice a4 X.length c4, .int .i64 e1] 43)
        have k0 : (W4.alloc (.cells #[.int .i64 (n : Int), .slice a4 X.length c4, .int .i64 e1] 43)).cell? ⟨W4.heap.size, 0, none⟩ = some (.int .i64 (n : Int)) := by rw [cell_row (heap_alloc_new _ _)]; rfl
        have k1 : (W4.alloc (.cells #[.int .i64 (n : Int), .slice a4 X.length c4, .int .i64 e1] 43)).cell? ⟨W4.heap.size, 1, none⟩ = some (.slice a4 X.length c4) := by rw [cell_row (heap_alloc_new _ _)]; rfl
        have k2 : (W4.alloc (.cells #[.int .i64 (n : Int), .slice a4 X.length c4, .int .i64 e1] 43)).cell? ⟨W4.heap.size, 2, none⟩ = some (.int .i64 e1) := by rw [cell_row (heap_alloc_new _ _)]; rfl
        have hb5 := HB3.out.trans ((hb4.trans (hba.mono hb4.size)).mono HB3.out.size)
        have hsx := (HS3.out.belowW hb4).belowW hba
        have hsy := hs4.belowW hba
        have f1 := (hb5.cell (World.block_lt_of_cell? _ _ c1)).trans c1
        have HBE := hide (HBx.out.trans (hb5.mono HBx.out.size))
        have HPE := hide (HPx.out.belowW hb5)
        have HQE := hide (HQx.out.belowW hb5)
        clear HY hs4 hb4 hba hb5 HS3 HB3 d1 d2 c0 c1 c2 HPx HQx HDx HBx
        go_upto_block 1 with fail
        generalize W4.alloc (.cells #[.int .i64 (n : Int), .slice a4 X.length c4, .int .i64 e1] 43) = W5 at *
        generalize W4.heap.size = g4 at *
        go_wp2_with fail
        have hdr : Below W5.heap.size W5 W5.drew := below_drewN _ _ 1
        refine wp_region_held_drew (S := fun w' => w'.cell? ⟨g4, 0, none⟩ = some (.int .i64 (n : Int)) ∧ w'.cell? ⟨g4, 1, none⟩ = some (.slice a4 X.length c4) ∧ w'.cell? ⟨g4, 2, none⟩ = some (.int .i64 e1)) (by kernel_rfl) ⟨(hdr.cell (World.block_lt_of_cell? _ _ k0)).trans k0, (hdr.cell (World.block_lt_of_cell? _ _ k1)).trans k1, (hdr.cell (World.block_lt_of_cell? _ _ k2)).trans k2⟩ (fun hH => ?_)
        refine take_to 0 55 (.pointer (some ⟨g4, 0, none⟩)) rfl (by kernel_rfl) (by kernel_rfl) (by kernel_rfl) (fun _ _ _ h => h) rfl (by rfl) (fun w hw => by rfl) hH ?_
        simp only [Act.put, List.setIfInBounds_toArray, List.set_cons_zero, List.set_cons_succ]
        refine take_to 1 56 (.int .i64 (n : Int)) rfl (by kernel_rfl) (by kernel_rfl) (by kernel_rfl) (fun _ _ _ h => h) rfl (by rfl) (fun w' hw => op_load _ _ 3 (.tmp 55) rfl (.pointer (some ⟨g4, 0, none⟩)) _ rfl (run_loadAny w' g4 0 3 _ Try.isAgg3 hw.1)) hH ?_
        simp only [Act.put, List.setIfInBounds_toArray, List.set_cons_zero, List.set_cons_succ]
        refine take_to 2 57 (.pointer (some ⟨g4, 1, none⟩)) rfl (by kernel_rfl) (by kernel_rfl) (by kernel_rfl) (fun _ _ _ h => h) rfl (by rfl) (fun w hw => by rfl) hH ?_
        simp only [Act.put, List.setIfInBounds_toArray, List.set_cons_zero, List.set_cons_succ]
        refine take_to 3 58 (.slice a4 X.length c4) rfl (by kernel_rfl) (by kernel_rfl) (by kernel_rfl) (fun _ _ _ h => h) rfl (by rfl) (fun w' hw => op_load _ _ 23 (.tmp 57) rfl (.pointer (some ⟨g4, 1, none⟩)) _ rfl (run_loadAny w' g4 1 23 _ Try.isAgg23 hw.2.1)) hH ?_
        simp only [Act.put, List.setIfInBounds_toArray, List.set_cons_zero, List.set_cons_succ]
        refine take_to 4 59 (.pointer (some ⟨g4, 2, none⟩)) rfl (by kernel_rfl) (by kernel_rfl) (by kernel_rfl) (fun _ _ _ h => h) rfl (by rfl) (fun w hw => by rfl) hH ?_
        simp only [Act.put, List.setIfInBounds_toArray, List.set_cons_zero, List.set_cons_succ]
        refine take_to 5 60 (.int .i64 e1) rfl (by kernel_rfl) (by kernel_rfl) (by kernel_rfl) (fun _ _ _ h => h) rfl (by rfl) (fun w' hw => op_load _ _ 3 (.tmp 59) rfl (.pointer (some ⟨g4, 2, none⟩)) _ rfl (run_loadAny w' g4 2 3 _ Try.isAgg3 hw.2.2)) hH ?_
        simp only [Act.put, List.setIfInBounds_toArray, List.set_cons_zero, List.set_cons_succ]
        refine take_to 6 12 (.int .i64 (n : Int)) rfl (by kernel_rfl) (by kernel_rfl) (by kernel_rfl) (fun _ _ _ h => h) rfl (by rfl) (fun w hw => by rfl) hH ?_
        simp only [Act.put, List.setIfInBounds_toArray, List.set_cons_zero, List.set_cons_succ]
        refine take_to 7 10 (.slice a4 X.length c4) rfl (by kernel_rfl) (by kernel_rfl) (by kernel_rfl) (fun _ _ _ h => h) rfl (by rfl) (fun w hw => by rfl) hH ?_
        simp only [Act.put, List.setIfInBounds_toArray, List.set_cons_zero, List.set_cons_succ]
        refine take_to 8 11 (.int .i64 e1) rfl (by kernel_rfl) (by kernel_rfl) (by kernel_rfl) (fun _ _ _ h => h) rfl (by rfl) (fun w hw => by rfl) hH ?_
        simp only [Act.put, List.setIfInBounds_toArray, List.set_cons_zero, List.set_cons_succ]
        refine wpAnyH_done (by kernel_rfl) ?_ _
        have gx : Sl W5.drew (.slice a3 X.length c3) X := hsx.belowW hdr
        have gy : Sl W5.drew (.slice a4 X.length c4) X := hsy.belowW hdr
        have ff : W5.drew.cell? ⟨g, 1, none⟩ = some (.int .i64 I) := (hdr.cell (World.block_lt_of_cell? _ _ f1)).trans f1
        have HBF : Hid (Below w.heap.size w W5.drew) := HBE.out.trans (hdr.mono HBE.out.size)
        have HPF : Hid (Sl W5.drew (.slice ap bs.length cp) bs) := HPE.out.belowW hdr
        have HQF : Hid (Sl W5.drew (.slice aq bs.length cq) bs) := HQE.out.belowW hdr
        clear hsx hsy f1 HBE HPE HQE hH k0 k1 k2 hdr
        generalize W5.drew = W6 at *
        have hsx := gx
        have hsy := gy
        have HBE := HBF
        have HPE := HPF
        have HQE := HQF
        clear gx gy HBF HPF HQF
        have cx := run_str hsx
        have cy := run_str hsy
        generalize strOf X = st at *
        by_cases he : e1 = 0
        · subst he
          go_wp2_with fail
          refine (HAS.out _ _ _ _ hsx hsy).mono ?_
          rintro e W9 ⟨rfl, hb9⟩
          go_wp2
          go_roundw
          case rel => exact ⟨k + 1, X, _, _, _, _, by omega, by go_num, rfl, rfl, hsh, hsx.belowW hb9, hsy.belowW hb9, HBE.out.trans (hb9.mono HBE.out.size)⟩
          case measure => simp [intOf]; omega
        · go_wp2_with fail
          refine (HAS.out _ _ _ _ HPE.out HQE.out).mono ?_
          rintro e W9 ⟨rfl, hb9⟩
          go_wp2
          go_roundw
          case rel => exact ⟨k + 1, bs, _, _, _, _, by omega, by go_num, rfl, rfl, HL.out, HPE.out.belowW hb9, HQE.out.belowW hb9, HBE.out.trans (hb9.mono HBE.out.size)⟩
          case measure => simp [intOf]; omega
      · by_cases e1 : K = 1
        · subst e1
          clear e0
          have HX : Hid (∀ U, Below x1.heap.size x1 U → Calls Try.prog 20 #[.slice ap bs.length cp, .int .i64 I, .slice da d.length dc] U fun e w' => ∃ a c, e = .returned (.tuple #[.slice a (dxOf (setOf bs I d)).length c, .int .i64 (deOf (setOf bs I d))]) ∧ Sl w' (.slice a (dxOf (setOf bs I d)).length c) (dxOf (setOf bs I d)) ∧ Below U.heap.size U w') := fun U hb => (set_any (HPx.out.belowW hb) (HDx.out.belowW hb) I).mono fun e w' h => h.form
          have HY : Hid (∀ U, Below x1.heap.size x1 U → Calls Try.prog 21 #[.slice aq bs.length cq, .int .i64 I, .slice da d.length dc] U fun e w' => (dxOf (setOf bs I d)).length ≤ 504 ∧ ∃ a c, e = .returned (.tuple #[.slice a (dxOf (setOf bs I d)).length c, .int .i64 (deOf (setOf bs I d))]) ∧ Sl w' (.slice a (dxOf (setOf bs I d)).length c) (dxOf (setOf bs I d)) ∧ Below U.heap.size U w') := fun U hb => (rset_any (HQx.out.belowW hb) (HDx.out.belowW hb) I).mono fun e w' h => ⟨h.short, h.form⟩
          generalize dxOf (setOf bs I d) = X at *
          generalize deOf (setOf bs I d) = e1 at *
          go_wp2_with fail
          refine (HX.out _ (Below.refl _ _)).mono ?_
          rintro e W3 ⟨a3, c3, rfl, hs3, hb3⟩
          have d1 := (hb3.cell (World.block_lt_of_cell? _ _ c1)).trans c1
          have d2 := (hb3.cell (World.block_lt_of_cell? _ _ c2)).trans c2
          have HS3 := hide hs3
          have HB3 := hide hb3
          clear HX hs3 hb3
          go_wp2_with fail
          refine (HY.out _ HB3.out).mono ?_
          rintro e W4 ⟨hsh, a4, c4, rfl, hs4, hb4⟩
          have hb5 := HB3.out.trans (hb4.mono HB3.out.size)
          have hsx := HS3.out.belowW hb4
          have hsy := hs4
          have f1 := (hb5.cell (World.block_lt_of_cell? _ _ c1)).trans c1
          have HBE := hide (HBx.out.trans (hb5.mono HBx.out.size))
          have HPE := hide (HPx.out.belowW hb5)
          have HQE := hide (HQx.out.belowW hb5)
          clear HY hs4 hb4 hb5 HS3 HB3 d1 d2 c0 c1 c2 HPx HQx HDx HBx
          have cx := run_str hsx
          have cy := run_str hsy
          generalize strOf X = st at *
          by_cases he : e1 = 0
          · subst he
            go_wp2_with fail
            refine (HAS.out _ _ _ _ hsx hsy).mono ?_
            rintro e W9 ⟨rfl, hb9⟩
            go_wp2
            go_roundw
            case rel => exact ⟨k + 1, X, _, _, _, _, by omega, by go_num, rfl, rfl, hsh, hsx.belowW hb9, hsy.belowW hb9, HBE.out.trans (hb9.mono HBE.out.size)⟩
            case measure => simp [intOf]; omega
          · go_wp2_with fail
            refine (HAS.out _ _ _ _ HPE.out HQE.out).mono ?_
            rintro e W9 ⟨rfl, hb9⟩
            go_wp2
            go_roundw
            case rel => exact ⟨k + 1, bs, _, _, _, _, by omega, by go_num, rfl, rfl, HL.out, HPE.out.belowW hb9, HQE.out.belowW hb9, HBE.out.trans (hb9.mono HBE.out.size)⟩
            case measure => simp [intOf]; omega
        · by_cases e2 : K = 2
          · subst e2
            clear e0 e1
            have HX : Hid (∀ U, Below x1.heap.size x1 U → Calls Try.prog 16 #[.slice ap bs.length cp, .int .i64 I] U fun e w' => ∃ a c, e = .returned (.tuple #[.slice a (dxOf (delOf bs I)).length c, .int .i64 (deOf (delOf bs I))]) ∧ Sl w' (.slice a (dxOf (delOf bs I)).length c) (dxOf (delOf bs I)) ∧ Below U.heap.size U w') := fun U hb => (del_any (HPx.out.belowW hb) I).mono fun e w' h => h.form
            have HY : Hid (∀ U, Below x1.heap.size x1 U → Calls Try.prog 22 #[.slice aq bs.length cq, .int .i64 I] U fun e w' => (dxOf (delOf bs I)).length ≤ 504 ∧ ∃ a c, e = .returned (.tuple #[.slice a (dxOf (delOf bs I)).length c, .int .i64 (deOf (delOf bs I))]) ∧ Sl w' (.slice a (dxOf (delOf bs I)).length c) (dxOf (delOf bs I)) ∧ Below U.heap.size U w') := fun U hb => (rdel_any (HQx.out.belowW hb) I).mono fun e w' h => ⟨h.short, h.form⟩
            generalize dxOf (delOf bs I) = X at *
            generalize deOf (delOf bs I) = e1 at *
            go_wp2_with fail
            refine (HX.out _ (Below.refl _ _)).mono ?_
            rintro e W3 ⟨a3, c3, rfl, hs3, hb3⟩
            have d1 := (hb3.cell (World.block_lt_of_cell? _ _ c1)).trans c1
            have d2 := (hb3.cell (World.block_lt_of_cell? _ _ c2)).trans c2
            have HS3 := hide hs3
            have HB3 := hide hb3
            clear HX hs3 hb3
            go_wp2_with fail
            refine (HY.out _ HB3.out).mono ?_
            rintro e W4 ⟨hsh, a4, c4, rfl, hs4, hb4⟩
            have hb5 := HB3.out.trans (hb4.mono HB3.out.size)
            have hsx := HS3.out.belowW hb4
            have hsy := hs4
            have f1 := (hb5.cell (World.block_lt_of_cell? _ _ c1)).trans c1
            have HBE := hide (HBx.out.trans (hb5.mono HBx.out.size))
            have HPE := hide (HPx.out.belowW hb5)
            have HQE := hide (HQx.out.belowW hb5)
            clear HY hs4 hb4 hb5 HS3 HB3 d1 d2 c0 c1 c2 HPx HQx HDx HBx
            have cx := run_str hsx
            have cy := run_str hsy
            generalize strOf X = st at *
            by_cases he : e1 = 0
            · subst he
              go_wp2_with fail
              refine (HAS.out _ _ _ _ hsx hsy).mono ?_
              rintro e W9 ⟨rfl, hb9⟩
              go_wp2
              go_roundw
              case rel => exact ⟨k + 1, X, _, _, _, _, by omega, by go_num, rfl, rfl, hsh, hsx.belowW hb9, hsy.belowW hb9, HBE.out.trans (hb9.mono HBE.out.size)⟩
              case measure => simp [intOf]; omega
            · go_wp2_with fail
              refine (HAS.out _ _ _ _ HPE.out HQE.out).mono ?_
              rintro e W9 ⟨rfl, hb9⟩
              go_wp2
              go_roundw
              case rel => exact ⟨k + 1, bs, _, _, _, _, by omega, by go_num, rfl, rfl, HL.out, HPE.out.belowW hb9, HQE.out.belowW hb9, HBE.out.trans (hb9.mono HBE.out.size)⟩
              case measure => simp [intOf]; omega
          · have HX : Hid (∀ U, Below x1.heap.size x1 U → Calls Try.prog 10 #[.slice ap bs.length cp, .int .i64 I] U fun e w' => ∃ a c, e = .returned (.slice a (setNextOf bs I).length c) ∧ Sl w' (.slice a (setNextOf bs I).length c) (setNextOf bs I) ∧ Below U.heap.size U w') := fun U hb => (setNext_any (HPx.out.belowW hb) I (Nat.le_trans HL.out (by omega))).mono fun e w' ⟨v', he, hs, hb⟩ => by obtain ⟨x, c, e3⟩ := sl_form hs; subst e3; exact ⟨x, c, he, hs, hb⟩
            have HY : Hid (∀ U, Below x1.heap.size x1 U → Calls Try.prog 23 #[.slice aq bs.length cq, .int .i64 I] U fun e w' => (setNextOf bs I).length ≤ 504 ∧ ∃ a c, e = .returned (.slice a (setNextOf bs I).length c) ∧ Sl w' (.slice a (setNextOf bs I).length c) (setNextOf bs I) ∧ Below U.heap.size U w') := fun U hb => (rsetNext_any (HQx.out.belowW hb) I).mono fun e w' ⟨v', he, hs, hb⟩ => by obtain ⟨x, c, e3⟩ := sl_form hs; subst e3; exact ⟨setNext_short HL.out I, x, c, he, hs, hb⟩
            generalize setNextOf bs I = X at *
            go_wp2_with fail
            refine (HX.out _ (Below.refl _ _)).mono ?_
            rintro e W3 ⟨a3, c3, rfl, hs3, hb3⟩
            have d1 := (hb3.cell (World.block_lt_of_cell? _ _ c1)).trans c1
            have d2 := (hb3.cell (World.block_lt_of_cell? _ _ c2)).trans c2
            have HS3 := hide hs3
            have HB3 := hide hb3
            clear HX hs3 hb3
            go_wp2_with fail
            refine (HY.out _ HB3.out).mono ?_
            rintro e W4 ⟨hsh, a4, c4, rfl, hs4, hb4⟩
            have hb5 := HB3.out.trans (hb4.mono HB3.out.size)
            have hsx := HS3.out.belowW hb4
            have hsy := hs4
            have f1 := (hb5.cell (World.block_lt_of_cell? _ _ c1)).trans c1
            have HBE := hide (HBx.out.trans (hb5.mono HBx.out.size))
            have HPE := hide (HPx.out.belowW hb5)
            have HQE := hide (HQx.out.belowW hb5)
            clear HY hs4 hb4 hb5 HS3 HB3 d1 d2 c0 c1 c2 HPx HQx HDx HBx
            have cx := run_str hsx
            have cy := run_str hsy
            generalize strOf X = st at *
            go_wp2_with fail
            refine (HAS.out _ _ _ _ hsx hsy).mono ?_
            rintro e W9 ⟨rfl, hb9⟩
            go_wp2
            go_roundw
            case rel => exact ⟨k + 1, X, _, _, _, _, by omega, by go_num, rfl, rfl, hsh, hsx.belowW hb9, hsy.belowW hb9, HBE.out.trans (hb9.mono HBE.out.size)⟩
            case measure => simp [intOf]; omega
    · have HA := hide (awake_any wr)
      by_cases hlt : k < len0
      · have h80 : ¬ (k : Int) < 80 := by omega
        have hlI : (k : Int) < (len0 : Int) := by omega
        go_wp2_with (go_at_call 17; refine HA.out.mono ?_; rintro e W3 ⟨rfl, hb3⟩)
        go_ret
        exact ⟨rfl, HB.out.trans (hb3.mono HB.out.size)⟩
      · have hlI : ¬ (k : Int) < (len0 : Int) := by omega
        go_wp2_with (go_at_call 17; refine HA.out.mono ?_; rintro e W3 ⟨rfl, hb3⟩)
        go_ret
        exact ⟨rfl, HB.out.trans (hb3.mono HB.out.size)⟩
end Go.Proofs.Ytdddeneppciiiaa
