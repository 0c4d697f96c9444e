/- PoolKeeps: the walk. -/
import Derived.Test.YtifoafiidplpiaaKAt
import Derived.Test.YtifoafiidplpiaaCOps
import Derived.Deep.CutBlock
import Derived.Deep.DeepCutAuto
namespace Go.Proofs.Ytifoafiidplpiaa
open Go.RowKit
set_option linter.unusedVariables false
set_option linter.unusedSimpArgs false

theorem Try.zero66 (w : World) : (zeroValue 66).run Try.prog w = .ok (.agg #[.int .i64 0, .int .i64 0, .int .i64 0, .int .i64 0, .int .i64 0, .int .i64 0, .int .i64 0, .int .i64 0, .int .i64 0, .int .i64 0]) w := by kernel_rfl
theorem off_set' (w : World) (g k : Nat) (v : Value) : Off [g] w (w.setCell ⟨g, k, none⟩ v) := (Off.refl _ _).setCell _ _ (by simp)
theorem fs_box {w w2 : World} {q p : Nat} {D : Dv} (hF : Fs w w2 q p 0 10 false [] D) : Fs w (w2.alloc (.cells #[.int .i64 0] 3)) q p 0 10 false [w2.heap.size] D :=
  hF.mindNew ((Below.refl _ _).alloc (Nat.le_refl _) _) (fun k hk => by simp at hk; subst hk; exact .inr ⟨Nat.le_refl _, by simp⟩)

set_option maxHeartbeats 8000000 in
set_option maxRecDepth 100000 in
theorem keeps_bad (m0 : Int) (hm0 : m0 < 1 ∨ 64 < m0) (a0 : Option Addr) (len0 cap0 : Nat) (w : World) :
    Calls Try.prog 5 #[.int .i64 m0, .slice a0 len0 cap0] w fun e w' => e = .returned (.bool true) ∧ Below w.heap.size w w' := by
  have hmd := mend_idle (D := Dv.fresh 60) rfl rfl 0 10 (fresh_head 60 0 (by omega))
  go_enter Try.func5, Try.ntmps5
  go_wp2_with fail
  refine (b_new 60 w (by omega) (by omega)).mono ?_
  rintro e w1 ⟨p, rfl, hD1⟩
  have HOP := hide (b_openOk 0 10 hD1 (by omega) (by simp [Dv.fresh]) (by simp [Dv.fresh]) hmd)
  clear hD1 hmd
  go_wp2_with fail
  refine HOP.out.mono ?_
  rintro e w2 ⟨q, rfl, hF2, _⟩
  have HF3 := hide (fs_box hF2).below
  clear HOP hF2
  go_wp2_with fail
  refine (newp_bad q 26 _ m0 hm0 _).mono ?_
  rintro e w3 ⟨rfl, hw3⟩
  have hw3 := hw3.symm
  subst hw3
  clear hm0
  go_wp2_with (go_at_call 16; refine (awake_any _).mono ?_; rintro e w4 ⟨rfl, hb4⟩)
  go_ret
  exact ⟨rfl, HF3.out.trans (hb4.mono HF3.out.size)⟩

set_option maxHeartbeats 8000000 in
set_option maxRecDepth 100000 in
theorem keeps_good (m0 : Nat) (h1 : 1 ≤ m0) (h2 : m0 ≤ 64) (a0 : Option Addr) (len0 cap0 : Nat) (w : World) (hops : IsOps w a0 len0) :
    Calls Try.prog 5 #[.int .i64 (m0 : Int), .slice a0 len0 cap0] w fun e w' => e = .returned (.bool true) ∧ Below w.heap.size w w' := by
  have W0 := hide hops
  have hl0 := hops.1
  clear hops
  have hmd := mend_idle (D := Dv.fresh 60) rfl rfl 0 10 (fresh_head 60 0 (by omega))
  go_enter Try.func5, Try.ntmps5
  go_wp2_with fail
  refine (b_new 60 w (by omega) (by omega)).mono ?_
  rintro e w1 ⟨p, rfl, hD1⟩
  have HOP := hide (b_openOk 0 10 hD1 (by omega) (by simp [Dv.fresh]) (by simp [Dv.fresh]) hmd)
  clear hD1 hmd
  go_wp2_with fail
  refine HOP.out.mono ?_
  rintro e w2 ⟨q, rfl, hF2, _⟩
  have HB2 := hide hF2.below
  have HN := hide (pk_new m0 h1 h2 (fs_box hF2) (well_more (fresh_well 60 (by omega) (by omega)) 1) (by rw [more_W]; rfl) (by rw [more_L]; simp [Dv.fresh]) (fun i hi => by rw [more_L]; exact disk_fresh 60 10 (by omega) i hi) (heap_alloc_new _ _) hF2.below.size)
  clear HOP hF2
  go_wp2_with fail
  refine HN.out.mono ?_
  rintro e w3 ⟨P, G, rfl, hP3, _⟩
  clear HN
  have hgB : w.heap.size ≤ w2.heap.size := HB2.out.size
  obtain ⟨gB, hgBe⟩ : ∃ gB, w2.heap.size = gB := ⟨_, rfl⟩
  rw [hgBe] at hP3 hgB ⊢
  have HA : Hid (∀ W, W = w3.alloc (.cells #[.int .i64 0, .int .i64 0, .int .i64 0, .int .i64 0, .int .i64 0, .int .i64 0, .int .i64 0, .int .i64 0, .int .i64 0, .int .i64 0] 66) →
      PoolK w W P G q p gB w3.heap.size [0, 0, 0, 0, 0, 0, 0, 0, 0, 0] 0 0 0 ∧ Own W w3.heap.size 66 [0, 0, 0, 0, 0, 0, 0, 0, 0, 0]) := fun W hW => by
    have hb : Below w3.heap.size w3 W := by rw [hW]; exact (Below.refl _ _).alloc (Nat.le_refl _) _
    have hsz : W.heap.size = w3.heap.size + 1 := by rw [hW]; simp
    refine ⟨⟨_, hP3.mindNew hb (fun k hk => by
      simp only [List.mem_cons, List.not_mem_nil, or_false] at hk
      subst hk; exact .inr ⟨by omega, by omega⟩), KInv.made _, Nat.le_refl _, rfl⟩, ?_⟩
    unfold Own
    rw [hW, heap_alloc_new]
    rfl
  have hsz0 : w.heap.size ≤ w3.heap.size := hP3.below.size
  clear hP3 HB2 hgBe
  have z66 := Try.zero66
  go_wp2_with fail
  go_loopw [13] (fun a wr => ∃ (k : Nat) (I : List Int) (N : Nat) (t : Int), k ≤ 80 ∧ a = .int .i64 k ∧ N ≤ 2 * k ∧ PoolK w wr P G q p gB w3.heap.size I (k : Int) N t ∧ Own wr w3.heap.size 66 I) (fun a _ => 81 - (intOf a).toNat)
  case atStart => exact ⟨0, _, 0, 0, by omega, rfl, by omega, (HA.out _ rfl).1, (HA.out _ rfl).2⟩
  case round =>
    clear HA z66
    obtain ⟨gI, hgI⟩ : ∃ gI, w3.heap.size = gI := ⟨_, rfl⟩
    rw [hgI] at hrel ⊢ hsz0
    clear hgI
    obtain ⟨k, I, N, t, hk, rfl, hN, hP, hI⟩ := hrel
    have HP := hide hP
    have HI := hide hI
    have HLE := hide hP.li
    clear hP hI
    by_cases hgo : k < len0 ∧ k < 80
    · obtain ⟨hlt, hk80⟩ := hgo
      obtain ⟨b, o, hab, hbl, kind, zP, zA, zS, hop⟩ := W0.out.2 k hlt
      subst hab
      obtain ⟨o0, o1, _, _⟩ := hop.cell hbl HP.out.below
      clear hop
      obtain ⟨m, hm10, hmod, hwr⟩ := mod_in zP 10 (by omega) (by omega)
      have hmod : (zP.tmod 10 + 10).tmod 10 = (m : Int) := hmod
      have hwr : IntKind.i64.wrap (zP.tmod 10 + 10) = zP.tmod 10 + 10 := hwr
      go_upto_block 2 with fail
      go_cut [] (fun wx => ∃ (I2 : List Int) (N2 : Nat) (t2 : Int), N2 ≤ 2 * k + 1 ∧ PoolK w wx P G q p gB gI I2 ((k : Int) + 1) N2 t2 ∧ Own wx gI 66 I2)
      case first =>
        by_cases hk1 : kind = 1
        · as_aux_lemma =>
            subst hk1
            have hwk : IntKind.i64.wrap ((k : Int) + 1) = (k : Int) + 1 := by rw [IntKind.wrap_i64]; omega
            go_wp2_with fail
            refine (page_any 7 ((k : Int) + 1) wr).mono ?_
            rintro e w4 ⟨rfl, hg4, hb4⟩
            have HPU := hide (pk_put HP.out m hm10 ((k : Int) + 1) (by omega) (by omega) (by omega) (by omega) hb4 hg4)
            have HI4 := hide (HI.out.belowW hb4)
            clear hg4 hb4 HI
            go_wp2_with fail
            refine HPU.out.mono ?_
            rintro e w5 ⟨rfl, ⟨t', hP5⟩, hK5⟩
            have HI5 := hide (HI4.out.kept hK5 (by simp))
            have cI := HI5.out.cell m (by rw [HLE.out]; exact hm10)
            have fI := HI5.out.fz m
            have HP5 := hide hP5
            clear HPU hP5 hK5 HI4 HP
            obtain ⟨y, hy⟩ : ∃ y, I.getD m 0 = y := ⟨_, rfl⟩
            rw [hy] at cI
            clear hy
            go_wp2_with fail
            go_meet
            case rel => exact ⟨_, N + 1, t', by omega, HP5.out.write hsz0 (off_set' _ _ _ _), HI5.out.set m ((k : Int) + 1)⟩
        have n1 : (kind == 1) = false := beq_eq_false_iff_ne.2 hk1
        by_cases hk2 : kind = 2
        · as_aux_lemma =>
            subst hk2
            have HEV := hide (pk_evict HP.out m hm10 (by omega))
            clear HP
            go_wp2_with fail
            refine HEV.out.mono ?_
            rintro e w4 ⟨rfl, ⟨t', hP4⟩, hK4, hH4⟩
            have HP4 := hide hP4
            have HI4 := hide (HI.out.kept hK4 (by simp))
            have HH4 := hide hH4
            clear HEV hP4 hK4 hH4 HI
            go_wp2_with (go_at_call 25; refine HH4.out.mono ?_; rintro e w' ⟨rfl, hw⟩; have hw := hw.symm; subst hw)
            go_meet
            case rel => exact ⟨I, N + 1, t', by omega, HP4.out.lift (by omega) (Nat.le_refl _), HI4.out⟩
        have n2 : (kind == 2) = false := beq_eq_false_iff_ne.2 hk2
        go_wp2_with fail
        go_meet
        case rel => exact ⟨I, N, t, by omega, HP.out.lift (by omega) (Nat.le_refl _), HI.out⟩
      case rest =>
        as_aux_lemma =>
          obtain ⟨I2, N2, t2, hN2, hP2, hI2⟩ := hcut
          have HLE2 := hide hP2.li
          have HIB := hide (hP2.ib m)
          have HGE := hide (pk_get hP2 m hm10 (by omega))
          have HI2 := hide hI2
          clear hP2 hI2 HP HI HLE
          go_wp2_with fail
          refine HGE.out.mono ?_
          rintro e w4 ⟨gx, cx, rfl, hsr, ⟨t3, hP4⟩, hK4⟩
          have hb8 : Below w4.heap.size w4 (w4.alloc (.cells (secCells (zerosN 512)).toArray 5)) := (Below.refl _ _).alloc (Nat.le_refl _) _
          have hz8 : (w4.alloc (.cells (secCells (zerosN 512)).toArray 5)).heap[w4.heap.size]? = some (.cells (secCells (zerosN 512)).toArray 5 (0, 0)) := heap_alloc_new _ _
          obtain ⟨w8, hw8⟩ : ∃ w8, w4.alloc (.cells (secCells (zerosN 512)).toArray 5) = w8 := ⟨_, rfl⟩
          have hmk : (Instr.makeSlice 37 (.int .i64 512) (.int .i64 512)).run Try.prog w4 = .ok (.slice (some ⟨w4.heap.size, 0, none⟩) 512 512) w8 := by rw [← hw8]; exact makeN 512 (by omega) w4
          rw [hw8] at hb8 hz8
          clear hw8
          have HS8 := hide (hsr.of hb8.size (hb8.block gx hsr.1))
          have HZ8 := hide hz8
          have HP8 := hide (hP4.belowW hb8)
          have HI8 := hide ((HI2.out.kept hK4 (by simp)).belowW hb8)
          have cI := HI8.out.cell m (by rw [HLE2.out]; exact hm10)
          clear HGE hP4 hK4 hb8 hz8 hsr HI2
          obtain ⟨y, hy⟩ : ∃ y, I2.getD m 0 = y := ⟨_, rfl⟩
          rw [hy] at cI HS8 HIB
          clear hy
          go_upto_if 104 with fail
          go_cut [17] (fun v wx => ∃ gz, v = .slice (some ⟨gz, 0, none⟩) 512 512 ∧ SrcAt wx gz 0 (cont y) ∧ SrcAt wx gx 0 (cont y) ∧ PoolK w wx P G q p gB gI I2 ((k : Int) + 1) (N2 + 1) t3 ∧ Own wx gI 66 I2)
          case first =>
            by_cases hpos : 0 < y
            · as_aux_lemma =>
                have hgt : decide (y > 0) = true := by simpa using hpos
                have HY := hide hpos
                go_wp2_with fail
                refine (page_any 7 y w8).mono ?_
                rintro e w9 ⟨rfl, hg9, hb9⟩
                have HS9 := hide (HS8.out.of hb9.size (hb9.block gx HS8.out.1))
                have HP9 := hide (HP8.out.belowW hb9)
                have HI9 := hide (HI8.out.belowW hb9)
                have HG9 : Hid (SrcAt w9 w8.heap.size 0 (cont y)) := by show SrcAt _ _ _ _; rw [cont_pos (by have := HY.out; omega)]; exact SrcAt.block hg9
                clear hg9 hb9
                go_wp2_with fail
                go_meet
                case rel => exact ⟨_, rfl, HG9.out, HS9.out, HP9.out, HI9.out⟩
            · as_aux_lemma =>
                have hy0 : y = 0 := by have := HIB.out.1; omega
                have HG8 : Hid (SrcAt w8 w4.heap.size 0 (cont y)) := by show SrcAt _ _ _ _; rw [hy0]; exact SrcAt.block HZ8.out
                have hgt : decide (y > 0) = false := by simpa using hpos
                clear hy0
                go_wp2_with fail
                go_meet
                case rel => exact ⟨_, rfl, HG8.out, HS8.out, HP8.out, HI8.out⟩
          case rest =>
            as_aux_lemma =>
              obtain ⟨gz, rfl, hsz, hsx, hP9, hI9⟩ := hcut
              have st1 := run_strS wc gx 512 cx _ (length_cont _) hsx
              have st2 := run_strS wc gz 512 512 _ (length_cont _) hsz
              have HP9 := hide hP9
              have HI9 := hide hI9
              generalize strOf (cont y) = S at *
              clear hsz hsx hP9 hI9 HS8 HZ8 HP8 HI8 hmk cI
              go_wp2_with fail
              go_loopw [18] (fun a wx => ∃ j : Nat, j ≤ 10 ∧ a = .int .i64 j ∧ PoolK w wx P G q p gB gI I2 ((k : Int) + 1) (N2 + 1) t3 ∧ Own wx gI 66 I2) (fun a _ => 11 - (intOf a).toNat)
              case atStart => exact ⟨0, by omega, rfl, HP9.out, HI9.out⟩
              case round =>
                clear HP9 HI9 st1 st2
                obtain ⟨j, hj, rfl, hPj, hIj⟩ := hrel
                by_cases hj10 : j < 10
                · have HRD := hide (pk_read hPj j hj10)
                  have HIJ := hide hIj
                  clear hPj hIj
                  go_wp2_with fail
                  refine HRD.out.mono ?_
                  rintro e w5 ⟨gy, l, rfl, hl1, hl2, hblk, hP5, hK5⟩
                  have HI5 := hide (HIJ.out.kept hK5 (by simp))
                  have HP5 := hide hP5
                  have cT := hP5.cell
                  have htb := hP5.tb
                  have htw : IntKind.i64.wrap (t3 + 1) = t3 + 1 := by rw [IntKind.wrap_i64]; omega
                  have hwk : IntKind.i64.wrap ((k : Int) + 1) = (k : Int) + 1 := by rw [IntKind.wrap_i64]; omega
                  obtain ⟨Y, hY0⟩ : ∃ Y, cont l = Y := ⟨_, rfl⟩
                  have HYL : Hid (Y.length = 512) := by show _ = _; rw [← hY0]; exact length_cont _
                  have HDN : Hid (∀ x : Int, t3 + 1 ≤ x → x ≤ (k : Int) + 1 → decide (Y = pg 7 x) = false) := fun x h1 h2 => by
                    rw [← hY0]
                    exact decide_eq_false (cont_ne hl1 (by omega) (by omega))
                  rw [hY0] at hblk
                  clear HRD hP5 hK5 HIJ hY0 hl1 hl2
                  go_wp2_with fail
                  go_loopw [21] (fun a wx => ∃ x : Int, a = .int .i64 x ∧ t3 + 1 ≤ x ∧ x ≤ (k : Int) + 2 ∧ Below w5.heap.size w5 wx) (fun a _ => ((k : Int) + 3 - intOf a).toNat)
                  case atStart => exact ⟨t3 + 1, rfl, by omega, by omega, Below.refl _ _⟩
                  case round =>
                    clear cT htw
                    obtain ⟨x, rfl, hx1, hx2, hbx⟩ := hrel
                    have HBX := hide hbx
                    have hY := (hbx.block gy (Array.getElem?_eq_some_iff.1 hblk).1).trans hblk
                    clear hbx hblk
                    by_cases hx : x ≤ (k : Int) + 1
                    · have HNE := hide (HDN.out x hx1 hx)
                      have hxw : IntKind.i64.wrap (x + 1) = x + 1 := by rw [IntKind.wrap_i64]; omega
                      have hxd : decide (x ≤ (k : Int) + 1) = true := decide_eq_true hx
                      go_wp2_with fail
                      refine wp_region_held_drew (S := fun w' => w'.heap[gy]? = some (.cells (secCells Y).toArray 5 (0, 0))) (by kernel_rfl) hY (fun hH => ?_)
                      refine take_to 0 138 (.slice (some ⟨gy, 0, none⟩) 512 512) rfl (by kernel_rfl) (by kernel_rfl) (by kernel_rfl) (fun _ _ _ h => h) rfl (by rfl) (fun w hw => by rfl) hH ?_
                      simp only [Act.put, List.setIfInBounds_toArray, List.set_cons_zero, List.set_cons_succ]
                      refine take_to 1 139 (.string (strOf Y)) rfl (by kernel_rfl) (by kernel_rfl) (by kernel_rfl) (fun _ _ _ h => h) rfl (by rfl) (fun w hw => op_conv _ _ 37 9 (.tmp 138) rfl _ _ rfl (run_str w _ 512 512 _ HYL.out hw)) hH ?_
                      simp only [Act.put, List.setIfInBounds_toArray, List.set_cons_zero, List.set_cons_succ]
                      refine take_to 2 140 (.int .i64 x) rfl (by kernel_rfl) (by kernel_rfl) (by kernel_rfl) (fun _ _ _ h => h) rfl (by rfl) (fun w hw => by rfl) hH ?_
                      simp only [Act.put, List.setIfInBounds_toArray, List.set_cons_zero, List.set_cons_succ]
                      refine step_call2_to 3 141 12 rfl (by kernel_rfl) rfl (by rfl) (.const (.int .i64 7)) (.tmp 140) _ rfl _ _ rfl rfl Try.enters12 (page_any 7 x _) ?_
                      rintro e w9 ⟨rfl, hg9, hb9⟩
                      have hH9 : w9.heap[gy]? = some (.cells (secCells Y).toArray 5 (0, 0)) := (hb9.block gy (Array.getElem?_eq_some_iff.1 hH).1).trans hH
                      refine ⟨_, rfl, hH9, ?_⟩
                      simp only [Act.put, List.setIfInBounds_toArray, List.set_cons_zero, List.set_cons_succ]
                      refine step_to 4 142 (.string (strOf (pg 7 x))) w9 rfl (by kernel_rfl) rfl (by rfl) (op_conv _ _ 37 9 (.tmp 141) rfl _ _ rfl (run_str w9 _ 512 512 _ (length_pg _ _) hg9)) hH9 ?_
                      simp only [Act.put, List.setIfInBounds_toArray, List.set_cons_zero, List.set_cons_succ]
                      refine step_to 5 143 (.bool false) w9 rfl (by kernel_rfl) rfl (by rfl) ((op_eqlstr _ _ (.tmp 139) (.tmp 142) 9 rfl _ _ rfl rfl).trans (by rw [HNE.out])) hH9 ?_
                      simp only [Act.put, List.setIfInBounds_toArray, List.set_cons_zero, List.set_cons_succ]
                      refine take_to 6 144 (.bool false) rfl (by kernel_rfl) (by kernel_rfl) (by kernel_rfl) (fun _ _ _ h => h) rfl (by rfl) (fun w hw => by rfl) hH9 ?_
                      simp only [Act.put, List.setIfInBounds_toArray, List.set_cons_zero, List.set_cons_succ]
                      refine skip_to 7 145 rfl (by kernel_rfl) (by kernel_rfl) (by kernel_rfl) (fun _ _ _ h => h) rfl (by rfl) hH9 ?_
                      simp only [Act.put, List.setIfInBounds_toArray, List.set_cons_zero, List.set_cons_succ]
                      refine skip_to 8 146 rfl (by kernel_rfl) (by kernel_rfl) (by kernel_rfl) (fun _ _ _ h => h) rfl (by rfl) hH9 ?_
                      simp only [Act.put, List.setIfInBounds_toArray, List.set_cons_zero, List.set_cons_succ]
                      refine skip_to 9 147 rfl (by kernel_rfl) (by kernel_rfl) (by kernel_rfl) (fun _ _ _ h => h) rfl (by rfl) hH9 ?_
                      simp only [Act.put, List.setIfInBounds_toArray, List.set_cons_zero, List.set_cons_succ]
                      refine take_to 10 148 (.bool false) rfl (by kernel_rfl) (by kernel_rfl) (by kernel_rfl) (fun _ _ _ h => h) rfl (by rfl) (fun w hw => by rfl) hH9 ?_
                      simp only [Act.put, List.setIfInBounds_toArray, List.set_cons_zero, List.set_cons_succ]
                      refine wpAnyH_done (by kernel_rfl) ?_ _
                      go_wp2_with fail
                      go_roundw
                      case rel => exact ⟨x + 1, rfl, by omega, by omega, HBX.out.trans ((below_drewN _ _ 1).trans (hb9.mono HBX.out.size))⟩
                      case measure => simp [intOf]; omega
                    · have hxd : decide (x ≤ (k : Int) + 1) = false := decide_eq_false hx
                      go_wp2_with fail
                      go_roundw
                      case rel => exact ⟨j + 1, by omega, by go_num, HP5.out.belowW HBX.out, HI5.out.belowW HBX.out⟩
                      case measure => simp [intOf]; omega
                · have HPJ := hide hPj
                  have HIJ := hide hIj
                  clear hPj hIj
                  go_wp2_with fail
                  go_roundw
                  case rel => exact ⟨k + 1, I2, N2 + 1, t3, by omega, by go_num, by omega, HPJ.out, HIJ.out⟩
                  case measure => simp [intOf]; omega
    · have HAW := hide (fun W => awake_any W)
      have HB := hide HP.out.below
      by_cases hlt : k < len0
      · have hk80 : ¬ ((k : Int) < 80) := by omega
        clear HP HI hgo
        go_wp2_with (go_at_call 16; refine (HAW.out _).mono ?_; rintro e w4 ⟨rfl, hb4⟩)
        go_ret
        exact ⟨rfl, HB.out.trans (hb4.mono HB.out.size)⟩
      · clear HP HI hgo
        go_wp2_with (go_at_call 16; refine (HAW.out _).mono ?_; rintro e w4 ⟨rfl, hb4⟩)
        go_ret
        exact ⟨rfl, HB.out.trans (hb4.mono HB.out.size)⟩
end Go.Proofs.Ytifoafiidplpiaa
