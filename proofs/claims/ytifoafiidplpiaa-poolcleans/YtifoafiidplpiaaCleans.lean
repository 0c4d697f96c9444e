/- PoolCleans: the walk. -/
import Derived.Test.YtifoafiidplpiaaCOps
namespace Go.Proofs.Ytifoafiidplpiaa
open Go.RowKit
set_option linter.unusedVariables false
set_option linter.unusedSimpArgs false

theorem op_geq3 (ρ : Operand → Value) (o : Oper) (x y : Operand) (tt : TypeId) (ho : o.op = .binOp .geq 3 x y tt) (n m : Int) (hx : ρ x = .int .i64 n) (hy : ρ y = .int .i64 m) (b : Bool) (hb : decide (n ≥ m) = b) {w : World} : (execOp ρ o).run Try.prog w = .ok (.value (.bool b)) w := by
  have hu := Try.underlying3
  unfold execOp
  simp only [ho, hx, hy]
  subst hb
  simp [go_sem, hu]
theorem op_neqstrY (ρ : Operand → Value) (o : Oper) (x y : Operand) (tt : TypeId) (ho : o.op = .binOp .neq 9 x y tt) (Y : ByteArray) (hx : ρ x = .string Y) (hy : ρ y = .string Y) {w : World} : (execOp ρ o).run Try.prog w = .ok (.value (.bool false)) w := by
  have hu := Try.underlying9
  have he : (Y.toList == Y.toList) = true := by simp
  unfold execOp
  simp only [ho, hx, hy]
  simp [go_sem, hu, he]
theorem hd7x {w : World} {v : Value} {d : List (Int × Int)} (h : DirtAt w v d) : ∃ ao c, v = .slice ao d.length c ∧ True := let ⟨ao, c, h1, _⟩ := h; ⟨ao, c, h1, trivial⟩
theorem hd7y {w : World} {ao : Option Addr} {n c : Nat} {d : List (Int × Int)} (h : DirtAt w (.slice ao n c) d) (j : Nat) (x : Int × Int) (hx : d[j]? = some x) : ∃ g, ao = some ⟨g, 0, none⟩ ∧ w.cell? ⟨g, j * 2, none⟩ = some (.int .i64 x.1) ∧ w.cell? ⟨g, j * 2 + 1, none⟩ = some (.int .i64 x.2) := by
  obtain ⟨ao', c', h1, h2⟩ := h
  obtain ⟨g, a1, a2, a3⟩ := h2 j x hx
  injection h1 with h3 h4 h5
  exact ⟨g, h3.trans a1, a2, a3⟩
theorem off_set (w : World) (g k : Nat) (v : Value) : Off [g] w (w.setCell ⟨g, k, none⟩ v) := (Off.refl _ _).setCell _ _ (by simp)

set_option maxHeartbeats 8000000 in
set_option maxRecDepth 100000 in
theorem cleans_walk (a0 : Option Addr) (len0 cap0 : Nat) (w : World) (hops : IsOps w a0 len0) :
    Calls Try.prog 3 #[.slice a0 len0 cap0] w fun e w' => e = .returned (.bool true) ∧ Below w.heap.size w w' := by
  have W0 := hide hops
  have hl0 := hops.1
  clear hops
  have hm0 := mend_idle (D := Dv.fresh 40) rfl rfl 0 6 (fresh_head 40 0 (by omega))
  go_enter Try.func3, Try.ntmps3
  go_wp2_with fail
  refine (b_new 40 w (by omega) (by omega)).mono ?_
  rintro e w1 ⟨p, rfl, hD1⟩
  have HOP := hide (b_openOk 0 6 hD1 (by omega) (by simp [Dv.fresh]) (by simp [Dv.fresh]) hm0)
  clear hD1 hm0
  go_wp2_with fail
  refine HOP.out.mono ?_
  rintro e w2 ⟨q, rfl, hF2, _⟩
  clear HOP
  have HN : Hid (Calls Try.prog 8 #[.pointer (some ⟨q, 0, none⟩), .int .i64 6, .func (.func 9) #[] #[]] w2 fun e w' => ∃ P G, e = .returned (.tuple #[.pointer (some ⟨P, 0, none⟩), .int .i64 0]) ∧ PoolAt Φ9 w w' P G q p 6 [] (Pl.made 6 (List.replicate 6 (zerosN 512)) ()) ∧ Below w2.heap.size w2 w') :=
    newp_ok (Φ := Φ9) (ff := []) (xs := []) 6 (by omega) (by omega) hF2 (well_more (fresh_well 40 (by omega) (by omega)) 1) (by rw [more_W]; rfl) (by rw [more_L]; simp [Dv.fresh]) (List.replicate 6 (zerosN 512)) (fun i hi => by rw [more_L]; exact disk_fresh 40 6 (by omega) i hi) (by simp) (disk_len 6) () rfl (fun k hk => by simp at hk) (fun k hk => by simp at hk)
  clear hF2
  go_wp2_with fail
  refine HN.out.mono ?_
  rintro e w3 ⟨P, G, rfl, hP3, _⟩
  clear HN
  have HA : Hid (∀ W, W = (w3.alloc (.cells #[.int .i64 0, .int .i64 0, .int .i64 0, .int .i64 0, .int .i64 0, .int .i64 0] 34)).alloc (.cells #[.int .i64 0, .int .i64 0, .int .i64 0, .int .i64 0, .int .i64 0, .int .i64 0] 34) →
      PoolC w W P G q p w3.heap.size (w3.heap.size + 1) [0, 0, 0, 0, 0, 0] [0, 0, 0, 0, 0, 0] 0 ∧ Own W w3.heap.size 34 [0, 0, 0, 0, 0, 0] ∧ Own W (w3.heap.size + 1) 34 [0, 0, 0, 0, 0, 0]) := fun W hW => by
    have hb : Below w3.heap.size w3 W := by rw [hW]; exact ((Below.refl _ _).alloc (Nat.le_refl _) _).alloc (by simp) _
    have hsz : W.heap.size = w3.heap.size + 2 := by rw [hW]; simp
    refine ⟨⟨_, hP3.mindNew hb (fun k hk => by
      simp only [List.mem_cons, List.not_mem_nil, or_false] at hk
      rcases hk with h1 | h1 <;> subst h1 <;> exact .inr ⟨by omega, by omega⟩), CInv.made _ _, rfl⟩, ?_, ?_⟩
    · unfold Own
      rw [hW, Below.heap_alloc _ _ _ (by simp), heap_alloc_new]
      rfl
    · unfold Own
      have := heap_alloc_new (w3.alloc (.cells #[.int .i64 0, .int .i64 0, .int .i64 0, .int .i64 0, .int .i64 0, .int .i64 0] 34)) (.cells #[.int .i64 0, .int .i64 0, .int .i64 0, .int .i64 0, .int .i64 0, .int .i64 0] 34)
      rw [show (w3.alloc (.cells #[.int .i64 0, .int .i64 0, .int .i64 0, .int .i64 0, .int .i64 0, .int .i64 0] 34)).heap.size = w3.heap.size + 1 by simp] at this
      rw [hW, this]
      rfl
  have hsz0 : w.heap.size ≤ w3.heap.size := hP3.below.size
  clear hP3
  have z34 := Try.zero34
  go_wp2_with fail
  go_loopw [12, 11] (fun a b wr => ∃ (k : Nat) (F L : List Int) (n : Nat), k ≤ 60 ∧ a = .int .i64 k ∧ b = .int .i64 (n : Nat) ∧ n ≤ k ∧ PoolC w wr P G q p w3.heap.size (w3.heap.size + 1) F L n ∧ Own wr w3.heap.size 34 F ∧ Own wr (w3.heap.size + 1) 34 L) (fun a _ _ => 61 - (intOf a).toNat)
  case atStart => exact ⟨0, _, _, 0, by omega, rfl, rfl, by omega, (HA.out _ rfl).1, (HA.out _ rfl).2.1, (HA.out _ rfl).2.2⟩
  case round =>
    clear HA z34
    obtain ⟨gF, hgF⟩ : ∃ gF, w3.heap.size = gF := ⟨_, rfl⟩
    obtain ⟨gL, hgL⟩ : ∃ gL, w3.heap.size + 1 = gL := ⟨_, rfl⟩
    rw [hgL] at hrel ⊢
    rw [hgF] at hrel ⊢ hsz0
    have hFL : gF ≠ gL := by omega
    have hL0 : w.heap.size ≤ gL := by omega
    clear hgF hgL
    obtain ⟨k, F, L, n, hk, rfl, rfl, hnk, hP, hF, hL⟩ := hrel
    have HP := hide hP
    have HF := hide hF
    have HL := hide hL
    have HLE := hide hP.lens
    clear hP hF hL
    by_cases hgo : k < len0 ∧ k < 60
    · obtain ⟨hlt, hk60⟩ := hgo
      obtain ⟨b, o, hab, hbl, kind, zP, zA, zS, hop⟩ := W0.out.2 k hlt
      subst hab
      obtain ⟨o0, o1, _, _⟩ := hop.cell hbl HP.out.below
      clear hop
      obtain ⟨m, hm6, hmod, hwr⟩ := mod_in zP 6 (by omega) (by omega)
      have hmod : (zP.tmod 6 + 6).tmod 6 = (m : Int) := hmod
      have hwr : IntKind.i64.wrap (zP.tmod 6 + 6) = zP.tmod 6 + 6 := hwr
      by_cases hk2 : kind = 2
      · subst hk2
        by_cases hz : F.getD m 0 = 0
        · have HEV := hide (pc_evict0 HP.out m hm6 hz (by omega))
          have HZ := hide hz
          have hid := (show F.set m 0 = F from let ⟨_, _, b, _⟩ := HP.out; b.idle m hm6 hz)
          have HID := hide hid
          clear hid hz HP
          go_wp2_with fail
          refine HEV.out.mono ?_
          rintro e w4 ⟨rfl, hP4, hK4⟩
          have HP4 := hide hP4
          have HF4 := hide (HF.out.kept hK4 (by simp))
          have HL4 := hide (HL.out.kept hK4 (by simp))
          have cF := HF4.out.cell m (by rw [HLE.out.1]; exact hm6)
          have fF := HF4.out.fz m
          rw [HZ.out] at cF
          clear HEV hP4 hK4 HF HL
          have HP : Hid (PoolC w (w4.setCell ⟨gF, m, none⟩ (.int .i64 0)) P G q p gF gL F L n) := HP4.out.write (by simp) hsz0 (off_set _ _ _ _)
          have HFF : Hid (Own (w4.setCell ⟨gF, m, none⟩ (.int .i64 0)) gF 34 F) := by have := HF4.out.set m 0; rw [HID.out] at this; exact this
          have HLL : Hid (Own (w4.setCell ⟨gF, m, none⟩ (.int .i64 0)) gL 34 L) := ((off_set w4 gF m (.int .i64 0)).block gL HL4.out.lt (by simp; omega)).trans HL4.out
          clear HP4 HF4 HL4
          have HDI := hide (pc_dirty HP.out)
          go_wp2_with fail
          refine HDI.out.mono ?_
          rintro e w7 ⟨v7, rfl, hd7, hb7⟩
          have HD7 := hide hd7
          have HP7 := hide (HP.out.belowW hb7)
          have HFF7 := hide (HFF.out.belowW hb7)
          have HLL7 := hide (HLL.out.belowW hb7)
          have HEL := hide (expE_le (F) 6)
          obtain ⟨FF, hFF⟩ : ∃ FF, F = FF := ⟨_, rfl⟩
          obtain ⟨LL, hLL⟩ : ∃ LL, L = LL := ⟨_, rfl⟩
          obtain ⟨nn, hnn⟩ : ∃ nn : Nat, n = nn := ⟨_, rfl⟩
          rw [hFF] at HD7 HP7 HFF7 HEL
          rw [hLL] at HP7 HLL7
          rw [hnn] at HP7
          have hnnk : nn ≤ k + 1 := by omega
          clear hd7 hb7 HP HFF HLL HDI
          obtain ⟨ao, c, rfl, _⟩ := hd7x HD7.out
          obtain ⟨nd, hnd⟩ : ∃ nd, (expE FF 6).length = nd := ⟨_, rfl⟩
          rw [hnd]
          have HND := hide hnd
          clear hnd
          go_wp2_with fail
          go_loopw [18, 17] (fun a b wx => ∃ m : Nat, m ≤ 6 ∧ a = .int .i64 m ∧ b = .int .i64 ((expE FF m).length : Nat) ∧ Below w7.heap.size w7 wx) (fun a _ _ => 7 - (intOf a).toNat)
          case atStart => exact ⟨0, by omega, rfl, by simp [expE], Below.refl _ _⟩
          case round =>
            obtain ⟨m, hm, rfl, rfl, hbx⟩ := hrel
            have HBX := hide hbx
            have cF := (HFF7.out.belowW hbx).cell m
            have HEM := hide (expE_le FF m)
            obtain ⟨kk, hkk'⟩ : ∃ kk, (expE FF m).length = kk := ⟨_, rfl⟩
            by_cases hm6 : m < 6
            · have cF := cF (by rw [HP7.out.lens.1]; exact hm6)
              by_cases hz : FF.getD m 0 = 0
              · have HNX : Hid ((expE FF (m + 1)).length = kk) := by show _ = _; rw [expE_succ, if_pos hz]; exact hkk'
                rw [hz] at cF
                rw [hkk']
                clear hbx hz hkk'
                go_wp2_with fail
                go_roundw
                case rel => exact ⟨m + 1, by omega, by go_num, by rw [HNX.out], HBX.out⟩
                case measure => simp [intOf]; omega
              · have HNX : Hid ((expE FF (m + 1)).length = kk + 1) := by show _ = _; rw [expE_succ, if_neg hz, List.length_append, hkk']; rfl
                have hat := expE_at FF m hm6 hz
                rw [hkk'] at hat
                obtain ⟨g, hao, e1, e2⟩ := hd7y (HD7.out.below hbx) kk _ hat
                cases hao
                have hkk : kk < nd := by rw [← HND.out]; exact (List.getElem?_eq_some_iff.1 hat).1
                have hkb : kk ≤ 6 := by rw [← hkk']; have := HEM.out; omega
                have hge : decide ((kk : Int) ≥ (nd : Int)) = false := by simp; omega
                have hzb : (FF.getD m 0 == 0) = false := beq_eq_false_iff_ne.2 hz
                rw [hkk']
                have hwrap : IntKind.i64.wrap ((kk : Int) + 1) = (kk : Int) + 1 := by rw [IntKind.wrap_i64]; omega
                generalize FF.getD m 0 = y at *
                clear hat hbx hz hkk'
                go_wp2_with fail
                refine wp_region_held_drew (S := fun w' => w'.cell? ⟨g, kk * 2, none⟩ = some (.int .i64 (m : Int)) ∧ w'.cell? ⟨g, kk * 2 + 1, none⟩ = some (.int .i64 y) ∧ w'.cell? ⟨gF, m, none⟩ = some (.int .i64 y)) (by kernel_rfl) ⟨e1, e2, cF⟩ (fun hH => ?_)
                refine take_to 0 124 (.int .i64 (kk : Int)) rfl (by kernel_rfl) (by kernel_rfl) (by kernel_rfl) (fun _ _ _ h => h) rfl (by rfl) (fun w hw => by rfl) hH ?_
                simp only [Act.put, List.setIfInBounds_toArray, List.set_cons_zero, List.set_cons_succ]
                refine take_to 1 125 (.slice (some ⟨g, 0, none⟩) nd c) rfl (by kernel_rfl) (by kernel_rfl) (by kernel_rfl) (fun _ _ _ h => h) rfl (by rfl) (fun w hw => by rfl) hH ?_
                simp only [Act.put, List.setIfInBounds_toArray, List.set_cons_zero, List.set_cons_succ]
                refine take_to 2 126 (.int .i64 (nd : Int)) rfl (by kernel_rfl) (by kernel_rfl) (by kernel_rfl) (fun _ _ _ h => h) rfl (by rfl) (fun w hw => op_len _ _ (.tmp 125) 42 45 Try.underlying42 rfl _ _ _ rfl) hH ?_
                simp only [Act.put, List.setIfInBounds_toArray, List.set_cons_zero, List.set_cons_succ]
                refine take_to 3 127 (.bool false) rfl (by kernel_rfl) (by kernel_rfl) (by kernel_rfl) (fun _ _ _ h => h) rfl (by rfl) (fun w hw => op_geq3 _ _ (.tmp 124) (.tmp 126) 3 rfl _ _ rfl rfl _ hge) hH ?_
                simp only [Act.put, List.setIfInBounds_toArray, List.set_cons_zero, List.set_cons_succ]
                refine take_to 4 128 (.bool false) rfl (by kernel_rfl) (by kernel_rfl) (by kernel_rfl) (fun _ _ _ h => h) rfl (by rfl) (fun w hw => by rfl) hH ?_
                simp only [Act.put, List.setIfInBounds_toArray, List.set_cons_zero, List.set_cons_succ]
                refine take_to 5 129 (.slice (some ⟨g, 0, none⟩) nd c) rfl (by kernel_rfl) (by kernel_rfl) (by kernel_rfl) (fun _ _ _ h => h) rfl (by rfl) (fun w hw => by rfl) hH ?_
                simp only [Act.put, List.setIfInBounds_toArray, List.set_cons_zero, List.set_cons_succ]
                refine take_to 6 130 (.int .i64 (kk : Int)) rfl (by kernel_rfl) (by kernel_rfl) (by kernel_rfl) (fun _ _ _ h => h) rfl (by rfl) (fun w hw => by rfl) hH ?_
                simp only [Act.put, List.setIfInBounds_toArray, List.set_cons_zero, List.set_cons_succ]
                refine take_to 7 131 (.pointer (some ⟨g, kk * 2, none⟩)) rfl (by kernel_rfl) (by kernel_rfl) (by kernel_rfl) (fun _ _ _ h => h) rfl (by rfl) (fun w hw => op_index _ _ 42 (.tmp 129) (.tmp 130) rfl _ _ _ rfl rfl (run_index42 w g _ _ _ hkk)) hH ?_
                simp only [Act.put, List.setIfInBounds_toArray, List.set_cons_zero, List.set_cons_succ]
                refine take_to 8 132 (.agg #[.int .i64 (m : Int), .int .i64 y]) rfl (by kernel_rfl) (by kernel_rfl) (by kernel_rfl) (fun _ _ _ h => h) rfl (by rfl) (fun w hw => op_load _ _ 45 (.tmp 131) rfl (.pointer (some ⟨g, kk * 2, none⟩)) _ rfl (run_load45 w g (kk * 2) _ _ hw.1 hw.2.1)) hH ?_
                simp only [Act.put, List.setIfInBounds_toArray, List.set_cons_zero, List.set_cons_succ]
                refine take_to 9 133 (.int .i64 (m : Int)) rfl (by kernel_rfl) (by kernel_rfl) (by kernel_rfl) (fun _ _ _ h => h) rfl (by rfl) (fun w hw => by rfl) hH ?_
                simp only [Act.put, List.setIfInBounds_toArray, List.set_cons_zero, List.set_cons_succ]
                refine take_to 10 134 (.int .i64 (m : Int)) rfl (by kernel_rfl) (by kernel_rfl) (by kernel_rfl) (fun _ _ _ h => h) rfl (by rfl) (fun w hw => by rfl) hH ?_
                simp only [Act.put, List.setIfInBounds_toArray, List.set_cons_zero, List.set_cons_succ]
                refine take_to 11 135 (.pointer (some ⟨gF, m, none⟩)) rfl (by kernel_rfl) (by kernel_rfl) (by kernel_rfl) (fun _ _ _ h => h) rfl (by rfl) (fun w hw => op_index _ _ 34 (.tmp 9) (.tmp 134) rfl _ _ _ rfl rfl (run_index34 w gF _ hm6)) hH ?_
                simp only [Act.put, List.setIfInBounds_toArray, List.set_cons_zero, List.set_cons_succ]
                refine take_to 12 136 (.int .i64 y) rfl (by kernel_rfl) (by kernel_rfl) (by kernel_rfl) (fun _ _ _ h => h) rfl (by rfl) (fun w hw => op_load _ _ 3 (.tmp 135) rfl (.pointer (some ⟨gF, m, none⟩)) _ rfl (run_loadAny w gF m 3 _ Try.isAgg3 hw.2.2)) hH ?_
                simp only [Act.put, List.setIfInBounds_toArray, List.set_cons_zero, List.set_cons_succ]
                refine take_to 13 137 (.agg #[.int .i64 (m : Int), .int .i64 y]) rfl (by kernel_rfl) (by kernel_rfl) (by kernel_rfl) (fun _ _ _ h => h) rfl (by rfl) (fun w hw => op_build45 _ _ (.tmp 133) (.tmp 136) rfl _ _ rfl rfl) hH ?_
                simp only [Act.put, List.setIfInBounds_toArray, List.set_cons_zero, List.set_cons_succ]
                refine take_to 14 138 (.bool false) rfl (by kernel_rfl) (by kernel_rfl) (by kernel_rfl) (fun _ _ _ h => h) rfl (by rfl) (fun w hw => op_neq45 _ _ (.tmp 132) (.tmp 137) 45 rfl _ _ rfl rfl) hH ?_
                simp only [Act.put, List.setIfInBounds_toArray, List.set_cons_zero, List.set_cons_succ]
                refine take_to 15 139 (.bool false) rfl (by kernel_rfl) (by kernel_rfl) (by kernel_rfl) (fun _ _ _ h => h) rfl (by rfl) (fun w hw => by rfl) hH ?_
                simp only [Act.put, List.setIfInBounds_toArray, List.set_cons_zero, List.set_cons_succ]
                refine wpAnyH_done (by kernel_rfl) ?_ _

                go_wp2_with fail
                go_roundw
                case rel => exact ⟨m + 1, by omega, by go_num, by rw [HNX.out]; go_num, HBX.out.trans (below_drewN _ _ 1)⟩
                case measure => simp [intOf]; omega
            · have hm' : m = 6 := by omega
              subst hm'
              have hkn : kk = nd := by rw [← hkk', HND.out]
              subst hkn
              have HPX := hide (HP7.out.belowW hbx)
              have HWT := hide (pc_writes HPX.out)
              have HFX := hide (HFF7.out.belowW hbx)
              have HLX := hide (HLL7.out.belowW hbx)
              rw [hkk']
              clear hbx cF hkk'
              go_wp2_with (go_at_call 15; refine HWT.out.mono ?_; rintro e w' ⟨rfl, hw⟩; have hw := hw.symm; subst hw)
              go_roundw
              case rel => exact ⟨k + 1, FF, LL, nn, by omega, by go_num, by first | rfl | (rw [← hnn]; rfl), hnnk, HPX.out, HFX.out, HLX.out⟩
              case measure => simp [intOf]; omega
        · have hz' : 0 < F.getD m 0 := by have := HP.out.pos m; omega
          have HEV := hide (pc_evict1 HP.out m hm6 hz' (by omega))
          have HZ := hide hz'
          have hgt : decide (F.getD m 0 > 0) = true := by simpa using hz'
          clear hz HP
          go_wp2_with fail
          refine HEV.out.mono ?_
          rintro e w4 ⟨rfl, hS4, hK4⟩
          have HRD := hide (pc_read hS4 hm6)
          have HF4 := hide (HF.out.kept hK4 (by simp))
          have HL4 := hide (HL.out.kept hK4 (by simp))
          have cF := HF4.out.cell m (by rw [HLE.out.1]; exact hm6)
          clear HEV hS4 hK4 HF HL
          obtain ⟨yF, hyF⟩ : ∃ yF, F.getD m 0 = yF := ⟨_, rfl⟩
          rw [hyF] at cF hgt hz'
          have HYF := hide hyF
          clear hyF
          go_wp2_with fail
          refine HRD.out.mono ?_
          rintro e w5 ⟨gx, rfl, hgx, hblk, hP5, hK5⟩
          have HP5 := hide hP5
          have HF5 := hide (HF4.out.kept hK5 (by simp))
          have HL5 := hide (HL4.out.kept hK5 (by simp))
          have cL := HL5.out.cell m (by rw [HLE.out.2]; exact hm6)
          obtain ⟨l, hl⟩ : ∃ l, L.getD m 0 = l := ⟨_, rfl⟩
          rw [hl] at cL hblk
          have HPG := hide (fun W => page_any 9 l W)
          obtain ⟨X, hX⟩ : ∃ X, pg 9 l = X := ⟨_, rfl⟩
          have HXL : Hid (X.length = 512) := by show _ = _; rw [← hX]; exact length_pg _ _
          rw [hX] at hblk HPG
          clear hX hl HRD hP5 hK5 HF4 HL4 cF hgx
          go_wp2_with fail
          refine wp_region_held_drew (S := fun w' => w'.heap[gx]? = some (.cells (secCells X).toArray 5 (0, 0)) ∧ w'.cell? ⟨gL, m, none⟩ = some (.int .i64 l)) (by kernel_rfl) ⟨hblk, cL⟩ (fun hH => ?_)
          refine take_to 0 77 (.int .i64 0) rfl (by kernel_rfl) (by kernel_rfl) (by kernel_rfl) (fun _ _ _ h => h) rfl (by rfl) (fun w hw => by rfl) hH ?_
          simp only [Act.put, List.setIfInBounds_toArray, List.set_cons_zero, List.set_cons_succ]
          refine take_to 1 78 (.bool false) rfl (by kernel_rfl) (by kernel_rfl) (by kernel_rfl) (fun _ _ _ h => h) rfl (by rfl) (fun w hw => op_neq24 _ _ (.tmp 77) _ 24 rfl _ _ rfl rfl _ (by rfl)) hH ?_
          simp only [Act.put, List.setIfInBounds_toArray, List.set_cons_zero, List.set_cons_succ]
          refine take_to 2 79 (.bool false) rfl (by kernel_rfl) (by kernel_rfl) (by kernel_rfl) (fun _ _ _ h => h) rfl (by rfl) (fun w hw => by rfl) hH ?_
          simp only [Act.put, List.setIfInBounds_toArray, List.set_cons_zero, List.set_cons_succ]
          refine take_to 3 80 (.slice (some ⟨gx, 0, none⟩) 512 512) rfl (by kernel_rfl) (by kernel_rfl) (by kernel_rfl) (fun _ _ _ h => h) rfl (by rfl) (fun w hw => by rfl) hH ?_
          simp only [Act.put, List.setIfInBounds_toArray, List.set_cons_zero, List.set_cons_succ]
          refine take_to 4 81 (.string (strOf X)) rfl (by kernel_rfl) (by kernel_rfl) (by kernel_rfl) (fun _ _ _ h => h) rfl (by rfl) (fun w hw => op_conv _ _ 37 9 (.tmp 80) rfl _ _ rfl (run_str w _ 512 512 _ HXL.out hw.1)) hH ?_
          simp only [Act.put, List.setIfInBounds_toArray, List.set_cons_zero, List.set_cons_succ]
          refine take_to 5 82 (.int .i64 (m : Int)) rfl (by kernel_rfl) (by kernel_rfl) (by kernel_rfl) (fun _ _ _ h => h) rfl (by rfl) (fun w hw => by rfl) hH ?_
          simp only [Act.put, List.setIfInBounds_toArray, List.set_cons_zero, List.set_cons_succ]
          refine take_to 6 83 (.pointer (some ⟨gL, m, none⟩)) rfl (by kernel_rfl) (by kernel_rfl) (by kernel_rfl) (fun _ _ _ h => h) rfl (by rfl) (fun w hw => op_index _ _ 34 (.tmp 10) (.tmp 82) rfl _ _ _ rfl rfl (run_index34 w gL _ hm6)) hH ?_
          simp only [Act.put, List.setIfInBounds_toArray, List.set_cons_zero, List.set_cons_succ]
          refine take_to 7 84 (.int .i64 l) rfl (by kernel_rfl) (by kernel_rfl) (by kernel_rfl) (fun _ _ _ h => h) rfl (by rfl) (fun w hw => op_load _ _ 3 (.tmp 83) rfl (.pointer (some ⟨gL, m, none⟩)) _ rfl (run_loadAny w gL m 3 _ Try.isAgg3 hw.2)) hH ?_
          simp only [Act.put, List.setIfInBounds_toArray, List.set_cons_zero, List.set_cons_succ]
          refine step_call2_to 8 85 12 rfl (by kernel_rfl) rfl (by rfl) (.const (.int .i64 9)) (.tmp 84) _ rfl _ _ rfl rfl Try.enters12 (HPG.out _) ?_
          rintro e w6 ⟨rfl, hg6, hb6⟩
          have hH6 : w6.heap[gx]? = some (.cells (secCells X).toArray 5 (0, 0)) ∧ w6.cell? ⟨gL, m, none⟩ = some (.int .i64 l) := ⟨(hb6.block gx (Array.getElem?_eq_some_iff.1 hH.1).1).trans hH.1, (hb6.cell (p := ⟨gL, m, none⟩) (World.block_lt_of_cell? _ _ hH.2)).trans hH.2⟩
          refine ⟨_, rfl, hH6, ?_⟩
          simp only [Act.put, List.setIfInBounds_toArray, List.set_cons_zero, List.set_cons_succ]
          refine step_to 9 86 (.string (strOf X)) w6 rfl (by kernel_rfl) rfl (by rfl) (op_conv _ _ 37 9 (.tmp 85) rfl _ _ rfl (run_str w6 _ 512 512 _ HXL.out hg6)) hH6 ?_
          simp only [Act.put, List.setIfInBounds_toArray, List.set_cons_zero, List.set_cons_succ]
          refine step_to 10 87 (.bool false) w6 rfl (by kernel_rfl) rfl (by rfl) (op_neqstrY _ _ (.tmp 81) (.tmp 86) 9 rfl _ rfl rfl) hH6 ?_
          simp only [Act.put, List.setIfInBounds_toArray, List.set_cons_zero, List.set_cons_succ]
          refine step_to 11 88 (.bool false) w6 rfl (by kernel_rfl) rfl (by rfl) (rfl) hH6 ?_
          simp only [Act.put, List.setIfInBounds_toArray, List.set_cons_zero, List.set_cons_succ]
          refine wpAnyH_done (by kernel_rfl) ?_ _
          have hB6 : Below w5.heap.size w5 w6 := (below_drewN _ _ 1).trans hb6
          have HP6 := hide (HP5.out.belowW hB6)
          have HF6 := hide (HF5.out.belowW hB6)
          have HL6 := hide (HL5.out.belowW hB6)
          have cF := HF6.out.cell m (by rw [HLE.out.1]; exact hm6)
          have fF := HF6.out.fz m
          have hwn : IntKind.i64.wrap ((n : Int) + 1) = (n : Int) + 1 := by rw [IntKind.wrap_i64]; omega
          rw [HYF.out] at cF
          clear hH hH6 hg6 hb6 hB6 HP5 HF5 HL5 HPG hblk cL
          have HP : Hid (PoolC w (w6.setCell ⟨gF, m, none⟩ (.int .i64 0)) P G q p gF gL (F.set m 0) L (n + 1)) := HP6.out.write (by simp) hsz0 (off_set _ _ _ _)
          have HFF : Hid (Own (w6.setCell ⟨gF, m, none⟩ (.int .i64 0)) gF 34 (F.set m 0)) := HF6.out.set m 0
          have HLL : Hid (Own (w6.setCell ⟨gF, m, none⟩ (.int .i64 0)) gL 34 L) := ((off_set w6 gF m (.int .i64 0)).block gL HL6.out.lt (by simp; omega)).trans HL6.out
          clear HP6 HF6 HL6
          have HDI := hide (pc_dirty HP.out)
          go_wp2_with fail
          refine HDI.out.mono ?_
          rintro e w7 ⟨v7, rfl, hd7, hb7⟩
          have HD7 := hide hd7
          have HP7 := hide (HP.out.belowW hb7)
          have HFF7 := hide (HFF.out.belowW hb7)
          have HLL7 := hide (HLL.out.belowW hb7)
          have HEL := hide (expE_le (F.set m 0) 6)
          obtain ⟨FF, hFF⟩ : ∃ FF, F.set m 0 = FF := ⟨_, rfl⟩
          obtain ⟨LL, hLL⟩ : ∃ LL, L = LL := ⟨_, rfl⟩
          obtain ⟨nn, hnn⟩ : ∃ nn : Nat, n + 1 = nn := ⟨_, rfl⟩
          rw [hFF] at HD7 HP7 HFF7 HEL
          rw [hLL] at HP7 HLL7
          rw [hnn] at HP7
          have hnnk : nn ≤ k + 1 := by omega
          clear hd7 hb7 HP HFF HLL HDI
          obtain ⟨ao, c, rfl, _⟩ := hd7x HD7.out
          obtain ⟨nd, hnd⟩ : ∃ nd, (expE FF 6).length = nd := ⟨_, rfl⟩
          rw [hnd]
          have HND := hide hnd
          clear hnd
          go_wp2_with fail
          go_loopw [18, 17] (fun a b wx => ∃ m : Nat, m ≤ 6 ∧ a = .int .i64 m ∧ b = .int .i64 ((expE FF m).length : Nat) ∧ Below w7.heap.size w7 wx) (fun a _ _ => 7 - (intOf a).toNat)
          case atStart => exact ⟨0, by omega, rfl, by simp [expE], Below.refl _ _⟩
          case round =>
            obtain ⟨m, hm, rfl, rfl, hbx⟩ := hrel
            have HBX := hide hbx
            have cF := (HFF7.out.belowW hbx).cell m
            have HEM := hide (expE_le FF m)
            obtain ⟨kk, hkk'⟩ : ∃ kk, (expE FF m).length = kk := ⟨_, rfl⟩
            by_cases hm6 : m < 6
            · have cF := cF (by rw [HP7.out.lens.1]; exact hm6)
              by_cases hz : FF.getD m 0 = 0
              · have HNX : Hid ((expE FF (m + 1)).length = kk) := by show _ = _; rw [expE_succ, if_pos hz]; exact hkk'
                rw [hz] at cF
                rw [hkk']
                clear hbx hz hkk'
                go_wp2_with fail
                go_roundw
                case rel => exact ⟨m + 1, by omega, by go_num, by rw [HNX.out], HBX.out⟩
                case measure => simp [intOf]; omega
              · have HNX : Hid ((expE FF (m + 1)).length = kk + 1) := by show _ = _; rw [expE_succ, if_neg hz, List.length_append, hkk']; rfl
                have hat := expE_at FF m hm6 hz
                rw [hkk'] at hat
                obtain ⟨g, hao, e1, e2⟩ := hd7y (HD7.out.below hbx) kk _ hat
                cases hao
                have hkk : kk < nd := by rw [← HND.out]; exact (List.getElem?_eq_some_iff.1 hat).1
                have hkb : kk ≤ 6 := by rw [← hkk']; have := HEM.out; omega
                have hge : decide ((kk : Int) ≥ (nd : Int)) = false := by simp; omega
                have hzb : (FF.getD m 0 == 0) = false := beq_eq_false_iff_ne.2 hz
                rw [hkk']
                have hwrap : IntKind.i64.wrap ((kk : Int) + 1) = (kk : Int) + 1 := by rw [IntKind.wrap_i64]; omega
                generalize FF.getD m 0 = y at *
                clear hat hbx hz hkk'
                go_wp2_with fail
                refine wp_region_held_drew (S := fun w' => w'.cell? ⟨g, kk * 2, none⟩ = some (.int .i64 (m : Int)) ∧ w'.cell? ⟨g, kk * 2 + 1, none⟩ = some (.int .i64 y) ∧ w'.cell? ⟨gF, m, none⟩ = some (.int .i64 y)) (by kernel_rfl) ⟨e1, e2, cF⟩ (fun hH => ?_)
                refine take_to 0 124 (.int .i64 (kk : Int)) rfl (by kernel_rfl) (by kernel_rfl) (by kernel_rfl) (fun _ _ _ h => h) rfl (by rfl) (fun w hw => by rfl) hH ?_
                simp only [Act.put, List.setIfInBounds_toArray, List.set_cons_zero, List.set_cons_succ]
                refine take_to 1 125 (.slice (some ⟨g, 0, none⟩) nd c) rfl (by kernel_rfl) (by kernel_rfl) (by kernel_rfl) (fun _ _ _ h => h) rfl (by rfl) (fun w hw => by rfl) hH ?_
                simp only [Act.put, List.setIfInBounds_toArray, List.set_cons_zero, List.set_cons_succ]
                refine take_to 2 126 (.int .i64 (nd : Int)) rfl (by kernel_rfl) (by kernel_rfl) (by kernel_rfl) (fun _ _ _ h => h) rfl (by rfl) (fun w hw => op_len _ _ (.tmp 125) 42 45 Try.underlying42 rfl _ _ _ rfl) hH ?_
                simp only [Act.put, List.setIfInBounds_toArray, List.set_cons_zero, List.set_cons_succ]
                refine take_to 3 127 (.bool false) rfl (by kernel_rfl) (by kernel_rfl) (by kernel_rfl) (fun _ _ _ h => h) rfl (by rfl) (fun w hw => op_geq3 _ _ (.tmp 124) (.tmp 126) 3 rfl _ _ rfl rfl _ hge) hH ?_
                simp only [Act.put, List.setIfInBounds_toArray, List.set_cons_zero, List.set_cons_succ]
                refine take_to 4 128 (.bool false) rfl (by kernel_rfl) (by kernel_rfl) (by kernel_rfl) (fun _ _ _ h => h) rfl (by rfl) (fun w hw => by rfl) hH ?_
                simp only [Act.put, List.setIfInBounds_toArray, List.set_cons_zero, List.set_cons_succ]
                refine take_to 5 129 (.slice (some ⟨g, 0, none⟩) nd c) rfl (by kernel_rfl) (by kernel_rfl) (by kernel_rfl) (fun _ _ _ h => h) rfl (by rfl) (fun w hw => by rfl) hH ?_
                simp only [Act.put, List.setIfInBounds_toArray, List.set_cons_zero, List.set_cons_succ]
                refine take_to 6 130 (.int .i64 (kk : Int)) rfl (by kernel_rfl) (by kernel_rfl) (by kernel_rfl) (fun _ _ _ h => h) rfl (by rfl) (fun w hw => by rfl) hH ?_
                simp only [Act.put, List.setIfInBounds_toArray, List.set_cons_zero, List.set_cons_succ]
                refine take_to 7 131 (.pointer (some ⟨g, kk * 2, none⟩)) rfl (by kernel_rfl) (by kernel_rfl) (by kernel_rfl) (fun _ _ _ h => h) rfl (by rfl) (fun w hw => op_index _ _ 42 (.tmp 129) (.tmp 130) rfl _ _ _ rfl rfl (run_index42 w g _ _ _ hkk)) hH ?_
                simp only [Act.put, List.setIfInBounds_toArray, List.set_cons_zero, List.set_cons_succ]
                refine take_to 8 132 (.agg #[.int .i64 (m : Int), .int .i64 y]) rfl (by kernel_rfl) (by kernel_rfl) (by kernel_rfl) (fun _ _ _ h => h) rfl (by rfl) (fun w hw => op_load _ _ 45 (.tmp 131) rfl (.pointer (some ⟨g, kk * 2, none⟩)) _ rfl (run_load45 w g (kk * 2) _ _ hw.1 hw.2.1)) hH ?_
                simp only [Act.put, List.setIfInBounds_toArray, List.set_cons_zero, List.set_cons_succ]
                refine take_to 9 133 (.int .i64 (m : Int)) rfl (by kernel_rfl) (by kernel_rfl) (by kernel_rfl) (fun _ _ _ h => h) rfl (by rfl) (fun w hw => by rfl) hH ?_
                simp only [Act.put, List.setIfInBounds_toArray, List.set_cons_zero, List.set_cons_succ]
                refine take_to 10 134 (.int .i64 (m : Int)) rfl (by kernel_rfl) (by kernel_rfl) (by kernel_rfl) (fun _ _ _ h => h) rfl (by rfl) (fun w hw => by rfl) hH ?_
                simp only [Act.put, List.setIfInBounds_toArray, List.set_cons_zero, List.set_cons_succ]
                refine take_to 11 135 (.pointer (some ⟨gF, m, none⟩)) rfl (by kernel_rfl) (by kernel_rfl) (by kernel_rfl) (fun _ _ _ h => h) rfl (by rfl) (fun w hw => op_index _ _ 34 (.tmp 9) (.tmp 134) rfl _ _ _ rfl rfl (run_index34 w gF _ hm6)) hH ?_
                simp only [Act.put, List.setIfInBounds_toArray, List.set_cons_zero, List.set_cons_succ]
                refine take_to 12 136 (.int .i64 y) rfl (by kernel_rfl) (by kernel_rfl) (by kernel_rfl) (fun _ _ _ h => h) rfl (by rfl) (fun w hw => op_load _ _ 3 (.tmp 135) rfl (.pointer (some ⟨gF, m, none⟩)) _ rfl (run_loadAny w gF m 3 _ Try.isAgg3 hw.2.2)) hH ?_
                simp only [Act.put, List.setIfInBounds_toArray, List.set_cons_zero, List.set_cons_succ]
                refine take_to 13 137 (.agg #[.int .i64 (m : Int), .int .i64 y]) rfl (by kernel_rfl) (by kernel_rfl) (by kernel_rfl) (fun _ _ _ h => h) rfl (by rfl) (fun w hw => op_build45 _ _ (.tmp 133) (.tmp 136) rfl _ _ rfl rfl) hH ?_
                simp only [Act.put, List.setIfInBounds_toArray, List.set_cons_zero, List.set_cons_succ]
                refine take_to 14 138 (.bool false) rfl (by kernel_rfl) (by kernel_rfl) (by kernel_rfl) (fun _ _ _ h => h) rfl (by rfl) (fun w hw => op_neq45 _ _ (.tmp 132) (.tmp 137) 45 rfl _ _ rfl rfl) hH ?_
                simp only [Act.put, List.setIfInBounds_toArray, List.set_cons_zero, List.set_cons_succ]
                refine take_to 15 139 (.bool false) rfl (by kernel_rfl) (by kernel_rfl) (by kernel_rfl) (fun _ _ _ h => h) rfl (by rfl) (fun w hw => by rfl) hH ?_
                simp only [Act.put, List.setIfInBounds_toArray, List.set_cons_zero, List.set_cons_succ]
                refine wpAnyH_done (by kernel_rfl) ?_ _

                go_wp2_with fail
                go_roundw
                case rel => exact ⟨m + 1, by omega, by go_num, by rw [HNX.out]; go_num, HBX.out.trans (below_drewN _ _ 1)⟩
                case measure => simp [intOf]; omega
            · have hm' : m = 6 := by omega
              subst hm'
              have hkn : kk = nd := by rw [← hkk', HND.out]
              subst hkn
              have HPX := hide (HP7.out.belowW hbx)
              have HWT := hide (pc_writes HPX.out)
              have HFX := hide (HFF7.out.belowW hbx)
              have HLX := hide (HLL7.out.belowW hbx)
              rw [hkk']
              clear hbx cF hkk'
              go_wp2_with (go_at_call 15; refine HWT.out.mono ?_; rintro e w' ⟨rfl, hw⟩; have hw := hw.symm; subst hw)
              go_roundw
              case rel => exact ⟨k + 1, FF, LL, nn, by omega, by go_num, by first | rfl | (rw [← hnn]; rfl), hnnk, HPX.out, HFX.out, HLX.out⟩
              case measure => simp [intOf]; omega
      · have hk2b : (kind == 2) = false := beq_eq_false_iff_ne.2 hk2
        have hwk : IntKind.i64.wrap ((k : Int) + 1) = (k : Int) + 1 := by rw [IntKind.wrap_i64]; omega
        clear hk2
        go_wp2_with fail
        refine (page_any 9 ((k : Int) + 1) wr).mono ?_
        rintro e w4 ⟨rfl, hg4, hb4⟩
        have HPU := hide (pc_put HP.out m hm6 ((k : Int) + 1) (by omega) (by omega) (by omega) hb4 hg4)
        have HF4 := hide (HF.out.belowW hb4)
        have HL4 := hide (HL.out.belowW hb4)
        clear hg4 hb4 HF HL
        go_wp2_with fail
        refine HPU.out.mono ?_
        rintro e w5 ⟨rfl, hP5, hK5⟩
        have HF5 := hide (HF4.out.kept hK5 (by simp))
        have HL5 := hide (HL4.out.kept hK5 (by simp))
        have cL := HL5.out.cell m (by rw [HLE.out.2]; exact hm6)
        have fL := HL5.out.fz m
        have HF6 : Hid (Own (w5.setCell ⟨gL, m, none⟩ (.int .i64 ((k : Int) + 1))) gF 34 F) := ((off_set w5 gL m (.int .i64 ((k : Int) + 1))).block gF HF5.out.lt (by simp; omega)).trans HF5.out
        have HL6 : Hid (Own (w5.setCell ⟨gL, m, none⟩ (.int .i64 ((k : Int) + 1))) gL 34 (L.set m ((k : Int) + 1))) := HL5.out.set m ((k : Int) + 1)
        have cF := HF6.out.cell m (by rw [HLE.out.1]; exact hm6)
        have fF := HF6.out.fz m
        have HP5 := hide hP5
        clear HPU hP5 hK5 HF4 HL4 HP
        obtain ⟨yL, hyL⟩ : ∃ yL, L.getD m 0 = yL := ⟨_, rfl⟩
        rw [hyL] at cL
        clear hyL
        by_cases hz : F.getD m 0 = 0
        · have HP6 : Hid (PoolC w (w5.setCell ⟨gL, m, none⟩ (.int .i64 ((k : Int) + 1))) P G q p gF gL (F.set m ((k : Int) + 1)) (L.set m ((k : Int) + 1)) n) := by
            have := HP5.out.write (g := gL) (by simp) hL0 (off_set w5 gL m (.int .i64 ((k : Int) + 1)))
            rw [if_pos hz] at this
            exact this
          rw [hz] at cF
          have HP : Hid (PoolC w ((w5.setCell ⟨gL, m, none⟩ (.int .i64 ((k : Int) + 1))).setCell ⟨gF, m, none⟩ (.int .i64 ((k : Int) + 1))) P G q p gF gL (F.set m ((k : Int) + 1)) (L.set m ((k : Int) + 1)) n) := HP6.out.write (by simp) hsz0 (off_set _ _ _ _)
          have HFF : Hid (Own ((w5.setCell ⟨gL, m, none⟩ (.int .i64 ((k : Int) + 1))).setCell ⟨gF, m, none⟩ (.int .i64 ((k : Int) + 1))) gF 34 (F.set m ((k : Int) + 1))) := HF6.out.set m ((k : Int) + 1)
          have HLL : Hid (Own ((w5.setCell ⟨gL, m, none⟩ (.int .i64 ((k : Int) + 1))).setCell ⟨gF, m, none⟩ (.int .i64 ((k : Int) + 1))) gL 34 (L.set m ((k : Int) + 1))) := ((off_set _ gF m _).block gL HL6.out.lt (by simp; omega)).trans HL6.out
          clear hz HP5 HP6 HF5 HL5 HF6 HL6
          have HDI := hide (pc_dirty HP.out)
          go_wp2_with fail
          refine HDI.out.mono ?_
          rintro e w7 ⟨v7, rfl, hd7, hb7⟩
          have HD7 := hide hd7
          have HP7 := hide (HP.out.belowW hb7)
          have HFF7 := hide (HFF.out.belowW hb7)
          have HLL7 := hide (HLL.out.belowW hb7)
          have HEL := hide (expE_le (F.set m ((k : Int) + 1)) 6)
          obtain ⟨FF, hFF⟩ : ∃ FF, F.set m ((k : Int) + 1) = FF := ⟨_, rfl⟩
          obtain ⟨LL, hLL⟩ : ∃ LL, L.set m ((k : Int) + 1) = LL := ⟨_, rfl⟩
          obtain ⟨nn, hnn⟩ : ∃ nn : Nat, n = nn := ⟨_, rfl⟩
          rw [hFF] at HD7 HP7 HFF7 HEL
          rw [hLL] at HP7 HLL7
          rw [hnn] at HP7
          have hnnk : nn ≤ k + 1 := by omega
          clear hd7 hb7 HP HFF HLL HDI
          obtain ⟨ao, c, rfl, _⟩ := hd7x HD7.out
          obtain ⟨nd, hnd⟩ : ∃ nd, (expE FF 6).length = nd := ⟨_, rfl⟩
          rw [hnd]
          have HND := hide hnd
          clear hnd
          go_wp2_with fail
          go_loopw [18, 17] (fun a b wx => ∃ m : Nat, m ≤ 6 ∧ a = .int .i64 m ∧ b = .int .i64 ((expE FF m).length : Nat) ∧ Below w7.heap.size w7 wx) (fun a _ _ => 7 - (intOf a).toNat)
          case atStart => exact ⟨0, by omega, rfl, by simp [expE], Below.refl _ _⟩
          case round =>
            obtain ⟨m, hm, rfl, rfl, hbx⟩ := hrel
            have HBX := hide hbx
            have cF := (HFF7.out.belowW hbx).cell m
            have HEM := hide (expE_le FF m)
            obtain ⟨kk, hkk'⟩ : ∃ kk, (expE FF m).length = kk := ⟨_, rfl⟩
            by_cases hm6 : m < 6
            · have cF := cF (by rw [HP7.out.lens.1]; exact hm6)
              by_cases hz : FF.getD m 0 = 0
              · have HNX : Hid ((expE FF (m + 1)).length = kk) := by show _ = _; rw [expE_succ, if_pos hz]; exact hkk'
                rw [hz] at cF
                rw [hkk']
                clear hbx hz hkk'
                go_wp2_with fail
                go_roundw
                case rel => exact ⟨m + 1, by omega, by go_num, by rw [HNX.out], HBX.out⟩
                case measure => simp [intOf]; omega
              · have HNX : Hid ((expE FF (m + 1)).length = kk + 1) := by show _ = _; rw [expE_succ, if_neg hz, List.length_append, hkk']; rfl
                have hat := expE_at FF m hm6 hz
                rw [hkk'] at hat
                obtain ⟨g, hao, e1, e2⟩ := hd7y (HD7.out.below hbx) kk _ hat
                cases hao
                have hkk : kk < nd := by rw [← HND.out]; exact (List.getElem?_eq_some_iff.1 hat).1
                have hkb : kk ≤ 6 := by rw [← hkk']; have := HEM.out; omega
                have hge : decide ((kk : Int) ≥ (nd : Int)) = false := by simp; omega
                have hzb : (FF.getD m 0 == 0) = false := beq_eq_false_iff_ne.2 hz
                rw [hkk']
                have hwrap : IntKind.i64.wrap ((kk : Int) + 1) = (kk : Int) + 1 := by rw [IntKind.wrap_i64]; omega
                generalize FF.getD m 0 = y at *
                clear hat hbx hz hkk'
                go_wp2_with fail
                refine wp_region_held_drew (S := fun w' => w'.cell? ⟨g, kk * 2, none⟩ = some (.int .i64 (m : Int)) ∧ w'.cell? ⟨g, kk * 2 + 1, none⟩ = some (.int .i64 y) ∧ w'.cell? ⟨gF, m, none⟩ = some (.int .i64 y)) (by kernel_rfl) ⟨e1, e2, cF⟩ (fun hH => ?_)
                refine take_to 0 124 (.int .i64 (kk : Int)) rfl (by kernel_rfl) (by kernel_rfl) (by kernel_rfl) (fun _ _ _ h => h) rfl (by rfl) (fun w hw => by rfl) hH ?_
                simp only [Act.put, List.setIfInBounds_toArray, List.set_cons_zero, List.set_cons_succ]
                refine take_to 1 125 (.slice (some ⟨g, 0, none⟩) nd c) rfl (by kernel_rfl) (by kernel_rfl) (by kernel_rfl) (fun _ _ _ h => h) rfl (by rfl) (fun w hw => by rfl) hH ?_
                simp only [Act.put, List.setIfInBounds_toArray, List.set_cons_zero, List.set_cons_succ]
                refine take_to 2 126 (.int .i64 (nd : Int)) rfl (by kernel_rfl) (by kernel_rfl) (by kernel_rfl) (fun _ _ _ h => h) rfl (by rfl) (fun w hw => op_len _ _ (.tmp 125) 42 45 Try.underlying42 rfl _ _ _ rfl) hH ?_
                simp only [Act.put, List.setIfInBounds_toArray, List.set_cons_zero, List.set_cons_succ]
                refine take_to 3 127 (.bool false) rfl (by kernel_rfl) (by kernel_rfl) (by kernel_rfl) (fun _ _ _ h => h) rfl (by rfl) (fun w hw => op_geq3 _ _ (.tmp 124) (.tmp 126) 3 rfl _ _ rfl rfl _ hge) hH ?_
                simp only [Act.put, List.setIfInBounds_toArray, List.set_cons_zero, List.set_cons_succ]
                refine take_to 4 128 (.bool false) rfl (by kernel_rfl) (by kernel_rfl) (by kernel_rfl) (fun _ _ _ h => h) rfl (by rfl) (fun w hw => by rfl) hH ?_
                simp only [Act.put, List.setIfInBounds_toArray, List.set_cons_zero, List.set_cons_succ]
                refine take_to 5 129 (.slice (some ⟨g, 0, none⟩) nd c) rfl (by kernel_rfl) (by kernel_rfl) (by kernel_rfl) (fun _ _ _ h => h) rfl (by rfl) (fun w hw => by rfl) hH ?_
                simp only [Act.put, List.setIfInBounds_toArray, List.set_cons_zero, List.set_cons_succ]
                refine take_to 6 130 (.int .i64 (kk : Int)) rfl (by kernel_rfl) (by kernel_rfl) (by kernel_rfl) (fun _ _ _ h => h) rfl (by rfl) (fun w hw => by rfl) hH ?_
                simp only [Act.put, List.setIfInBounds_toArray, List.set_cons_zero, List.set_cons_succ]
                refine take_to 7 131 (.pointer (some ⟨g, kk * 2, none⟩)) rfl (by kernel_rfl) (by kernel_rfl) (by kernel_rfl) (fun _ _ _ h => h) rfl (by rfl) (fun w hw => op_index _ _ 42 (.tmp 129) (.tmp 130) rfl _ _ _ rfl rfl (run_index42 w g _ _ _ hkk)) hH ?_
                simp only [Act.put, List.setIfInBounds_toArray, List.set_cons_zero, List.set_cons_succ]
                refine take_to 8 132 (.agg #[.int .i64 (m : Int), .int .i64 y]) rfl (by kernel_rfl) (by kernel_rfl) (by kernel_rfl) (fun _ _ _ h => h) rfl (by rfl) (fun w hw => op_load _ _ 45 (.tmp 131) rfl (.pointer (some ⟨g, kk * 2, none⟩)) _ rfl (run_load45 w g (kk * 2) _ _ hw.1 hw.2.1)) hH ?_
                simp only [Act.put, List.setIfInBounds_toArray, List.set_cons_zero, List.set_cons_succ]
                refine take_to 9 133 (.int .i64 (m : Int)) rfl (by kernel_rfl) (by kernel_rfl) (by kernel_rfl) (fun _ _ _ h => h) rfl (by rfl) (fun w hw => by rfl) hH ?_
                simp only [Act.put, List.setIfInBounds_toArray, List.set_cons_zero, List.set_cons_succ]
                refine take_to 10 134 (.int .i64 (m : Int)) rfl (by kernel_rfl) (by kernel_rfl) (by kernel_rfl) (fun _ _ _ h => h) rfl (by rfl) (fun w hw => by rfl) hH ?_
                simp only [Act.put, List.setIfInBounds_toArray, List.set_cons_zero, List.set_cons_succ]
                refine take_to 11 135 (.pointer (some ⟨gF, m, none⟩)) rfl (by kernel_rfl) (by kernel_rfl) (by kernel_rfl) (fun _ _ _ h => h) rfl (by rfl) (fun w hw => op_index _ _ 34 (.tmp 9) (.tmp 134) rfl _ _ _ rfl rfl (run_index34 w gF _ hm6)) hH ?_
                simp only [Act.put, List.setIfInBounds_toArray, List.set_cons_zero, List.set_cons_succ]
                refine take_to 12 136 (.int .i64 y) rfl (by kernel_rfl) (by kernel_rfl) (by kernel_rfl) (fun _ _ _ h => h) rfl (by rfl) (fun w hw => op_load _ _ 3 (.tmp 135) rfl (.pointer (some ⟨gF, m, none⟩)) _ rfl (run_loadAny w gF m 3 _ Try.isAgg3 hw.2.2)) hH ?_
                simp only [Act.put, List.setIfInBounds_toArray, List.set_cons_zero, List.set_cons_succ]
                refine take_to 13 137 (.agg #[.int .i64 (m : Int), .int .i64 y]) rfl (by kernel_rfl) (by kernel_rfl) (by kernel_rfl) (fun _ _ _ h => h) rfl (by rfl) (fun w hw => op_build45 _ _ (.tmp 133) (.tmp 136) rfl _ _ rfl rfl) hH ?_
                simp only [Act.put, List.setIfInBounds_toArray, List.set_cons_zero, List.set_cons_succ]
                refine take_to 14 138 (.bool false) rfl (by kernel_rfl) (by kernel_rfl) (by kernel_rfl) (fun _ _ _ h => h) rfl (by rfl) (fun w hw => op_neq45 _ _ (.tmp 132) (.tmp 137) 45 rfl _ _ rfl rfl) hH ?_
                simp only [Act.put, List.setIfInBounds_toArray, List.set_cons_zero, List.set_cons_succ]
                refine take_to 15 139 (.bool false) rfl (by kernel_rfl) (by kernel_rfl) (by kernel_rfl) (fun _ _ _ h => h) rfl (by rfl) (fun w hw => by rfl) hH ?_
                simp only [Act.put, List.setIfInBounds_toArray, List.set_cons_zero, List.set_cons_succ]
                refine wpAnyH_done (by kernel_rfl) ?_ _

                go_wp2_with fail
                go_roundw
                case rel => exact ⟨m + 1, by omega, by go_num, by rw [HNX.out]; go_num, HBX.out.trans (below_drewN _ _ 1)⟩
                case measure => simp [intOf]; omega
            · have hm' : m = 6 := by omega
              subst hm'
              have hkn : kk = nd := by rw [← hkk', HND.out]
              subst hkn
              have HPX := hide (HP7.out.belowW hbx)
              have HWT := hide (pc_writes HPX.out)
              have HFX := hide (HFF7.out.belowW hbx)
              have HLX := hide (HLL7.out.belowW hbx)
              rw [hkk']
              clear hbx cF hkk'
              go_wp2_with (go_at_call 15; refine HWT.out.mono ?_; rintro e w' ⟨rfl, hw⟩; have hw := hw.symm; subst hw)
              go_roundw
              case rel => exact ⟨k + 1, FF, LL, nn, by omega, by go_num, by first | rfl | (rw [← hnn]; rfl), hnnk, HPX.out, HFX.out, HLX.out⟩
              case measure => simp [intOf]; omega
        · have HP : Hid (PoolC w (w5.setCell ⟨gL, m, none⟩ (.int .i64 ((k : Int) + 1))) P G q p gF gL F (L.set m ((k : Int) + 1)) n) := by
            have := HP5.out.write (g := gL) (by simp) hL0 (off_set w5 gL m (.int .i64 ((k : Int) + 1)))
            rw [if_neg hz] at this
            exact this
          have HFF := HF6
          have HLL := HL6
          have hzb : (F.getD m 0 == 0) = false := beq_eq_false_iff_ne.2 hz
          obtain ⟨yF, hyF⟩ : ∃ yF, F.getD m 0 = yF := ⟨_, rfl⟩
          rw [hyF] at cF hzb
          clear hyF hz HP5 HF5 HL5 HF6 HL6
          have HDI := hide (pc_dirty HP.out)
          go_wp2_with fail
          refine HDI.out.mono ?_
          rintro e w7 ⟨v7, rfl, hd7, hb7⟩
          have HD7 := hide hd7
          have HP7 := hide (HP.out.belowW hb7)
          have HFF7 := hide (HFF.out.belowW hb7)
          have HLL7 := hide (HLL.out.belowW hb7)
          have HEL := hide (expE_le (F) 6)
          obtain ⟨FF, hFF⟩ : ∃ FF, F = FF := ⟨_, rfl⟩
          obtain ⟨LL, hLL⟩ : ∃ LL, L.set m ((k : Int) + 1) = LL := ⟨_, rfl⟩
          obtain ⟨nn, hnn⟩ : ∃ nn : Nat, n = nn := ⟨_, rfl⟩
          rw [hFF] at HD7 HP7 HFF7 HEL
          rw [hLL] at HP7 HLL7
          rw [hnn] at HP7
          have hnnk : nn ≤ k + 1 := by omega
          clear hd7 hb7 HP HFF HLL HDI
          obtain ⟨ao, c, rfl, _⟩ := hd7x HD7.out
          obtain ⟨nd, hnd⟩ : ∃ nd, (expE FF 6).length = nd := ⟨_, rfl⟩
          rw [hnd]
          have HND := hide hnd
          clear hnd
          go_wp2_with fail
          go_loopw [18, 17] (fun a b wx => ∃ m : Nat, m ≤ 6 ∧ a = .int .i64 m ∧ b = .int .i64 ((expE FF m).length : Nat) ∧ Below w7.heap.size w7 wx) (fun a _ _ => 7 - (intOf a).toNat)
          case atStart => exact ⟨0, by omega, rfl, by simp [expE], Below.refl _ _⟩
          case round =>
            obtain ⟨m, hm, rfl, rfl, hbx⟩ := hrel
            have HBX := hide hbx
            have cF := (HFF7.out.belowW hbx).cell m
            have HEM := hide (expE_le FF m)
            obtain ⟨kk, hkk'⟩ : ∃ kk, (expE FF m).length = kk := ⟨_, rfl⟩
            by_cases hm6 : m < 6
            · have cF := cF (by rw [HP7.out.lens.1]; exact hm6)
              by_cases hz : FF.getD m 0 = 0
              · have HNX : Hid ((expE FF (m + 1)).length = kk) := by show _ = _; rw [expE_succ, if_pos hz]; exact hkk'
                rw [hz] at cF
                rw [hkk']
                clear hbx hz hkk'
                go_wp2_with fail
                go_roundw
                case rel => exact ⟨m + 1, by omega, by go_num, by rw [HNX.out], HBX.out⟩
                case measure => simp [intOf]; omega
              · have HNX : Hid ((expE FF (m + 1)).length = kk + 1) := by show _ = _; rw [expE_succ, if_neg hz, List.length_append, hkk']; rfl
                have hat := expE_at FF m hm6 hz
                rw [hkk'] at hat
                obtain ⟨g, hao, e1, e2⟩ := hd7y (HD7.out.below hbx) kk _ hat
                cases hao
                have hkk : kk < nd := by rw [← HND.out]; exact (List.getElem?_eq_some_iff.1 hat).1
                have hkb : kk ≤ 6 := by rw [← hkk']; have := HEM.out; omega
                have hge : decide ((kk : Int) ≥ (nd : Int)) = false := by simp; omega
                have hzb : (FF.getD m 0 == 0) = false := beq_eq_false_iff_ne.2 hz
                rw [hkk']
                have hwrap : IntKind.i64.wrap ((kk : Int) + 1) = (kk : Int) + 1 := by rw [IntKind.wrap_i64]; omega
                generalize FF.getD m 0 = y at *
                clear hat hbx hz hkk'
                go_wp2_with fail
                refine wp_region_held_drew (S := fun w' => w'.cell? ⟨g, kk * 2, none⟩ = some (.int .i64 (m : Int)) ∧ w'.cell? ⟨g, kk * 2 + 1, none⟩ = some (.int .i64 y) ∧ w'.cell? ⟨gF, m, none⟩ = some (.int .i64 y)) (by kernel_rfl) ⟨e1, e2, cF⟩ (fun hH => ?_)
                refine take_to 0 124 (.int .i64 (kk : Int)) rfl (by kernel_rfl) (by kernel_rfl) (by kernel_rfl) (fun _ _ _ h => h) rfl (by rfl) (fun w hw => by rfl) hH ?_
                simp only [Act.put, List.setIfInBounds_toArray, List.set_cons_zero, List.set_cons_succ]
                refine take_to 1 125 (.slice (some ⟨g, 0, none⟩) nd c) rfl (by kernel_rfl) (by kernel_rfl) (by kernel_rfl) (fun _ _ _ h => h) rfl (by rfl) (fun w hw => by rfl) hH ?_
                simp only [Act.put, List.setIfInBounds_toArray, List.set_cons_zero, List.set_cons_succ]
                refine take_to 2 126 (.int .i64 (nd : Int)) rfl (by kernel_rfl) (by kernel_rfl) (by kernel_rfl) (fun _ _ _ h => h) rfl (by rfl) (fun w hw => op_len _ _ (.tmp 125) 42 45 Try.underlying42 rfl _ _ _ rfl) hH ?_
                simp only [Act.put, List.setIfInBounds_toArray, List.set_cons_zero, List.set_cons_succ]
                refine take_to 3 127 (.bool false) rfl (by kernel_rfl) (by kernel_rfl) (by kernel_rfl) (fun _ _ _ h => h) rfl (by rfl) (fun w hw => op_geq3 _ _ (.tmp 124) (.tmp 126) 3 rfl _ _ rfl rfl _ hge) hH ?_
                simp only [Act.put, List.setIfInBounds_toArray, List.set_cons_zero, List.set_cons_succ]
                refine take_to 4 128 (.bool false) rfl (by kernel_rfl) (by kernel_rfl) (by kernel_rfl) (fun _ _ _ h => h) rfl (by rfl) (fun w hw => by rfl) hH ?_
                simp only [Act.put, List.setIfInBounds_toArray, List.set_cons_zero, List.set_cons_succ]
                refine take_to 5 129 (.slice (some ⟨g, 0, none⟩) nd c) rfl (by kernel_rfl) (by kernel_rfl) (by kernel_rfl) (fun _ _ _ h => h) rfl (by rfl) (fun w hw => by rfl) hH ?_
                simp only [Act.put, List.setIfInBounds_toArray, List.set_cons_zero, List.set_cons_succ]
                refine take_to 6 130 (.int .i64 (kk : Int)) rfl (by kernel_rfl) (by kernel_rfl) (by kernel_rfl) (fun _ _ _ h => h) rfl (by rfl) (fun w hw => by rfl) hH ?_
                simp only [Act.put, List.setIfInBounds_toArray, List.set_cons_zero, List.set_cons_succ]
                refine take_to 7 131 (.pointer (some ⟨g, kk * 2, none⟩)) rfl (by kernel_rfl) (by kernel_rfl) (by kernel_rfl) (fun _ _ _ h => h) rfl (by rfl) (fun w hw => op_index _ _ 42 (.tmp 129) (.tmp 130) rfl _ _ _ rfl rfl (run_index42 w g _ _ _ hkk)) hH ?_
                simp only [Act.put, List.setIfInBounds_toArray, List.set_cons_zero, List.set_cons_succ]
                refine take_to 8 132 (.agg #[.int .i64 (m : Int), .int .i64 y]) rfl (by kernel_rfl) (by kernel_rfl) (by kernel_rfl) (fun _ _ _ h => h) rfl (by rfl) (fun w hw => op_load _ _ 45 (.tmp 131) rfl (.pointer (some ⟨g, kk * 2, none⟩)) _ rfl (run_load45 w g (kk * 2) _ _ hw.1 hw.2.1)) hH ?_
                simp only [Act.put, List.setIfInBounds_toArray, List.set_cons_zero, List.set_cons_succ]
                refine take_to 9 133 (.int .i64 (m : Int)) rfl (by kernel_rfl) (by kernel_rfl) (by kernel_rfl) (fun _ _ _ h => h) rfl (by rfl) (fun w hw => by rfl) hH ?_
                simp only [Act.put, List.setIfInBounds_toArray, List.set_cons_zero, List.set_cons_succ]
                refine take_to 10 134 (.int .i64 (m : Int)) rfl (by kernel_rfl) (by kernel_rfl) (by kernel_rfl) (fun _ _ _ h => h) rfl (by rfl) (fun w hw => by rfl) hH ?_
                simp only [Act.put, List.setIfInBounds_toArray, List.set_cons_zero, List.set_cons_succ]
                refine take_to 11 135 (.pointer (some ⟨gF, m, none⟩)) rfl (by kernel_rfl) (by kernel_rfl) (by kernel_rfl) (fun _ _ _ h => h) rfl (by rfl) (fun w hw => op_index _ _ 34 (.tmp 9) (.tmp 134) rfl _ _ _ rfl rfl (run_index34 w gF _ hm6)) hH ?_
                simp only [Act.put, List.setIfInBounds_toArray, List.set_cons_zero, List.set_cons_succ]
                refine take_to 12 136 (.int .i64 y) rfl (by kernel_rfl) (by kernel_rfl) (by kernel_rfl) (fun _ _ _ h => h) rfl (by rfl) (fun w hw => op_load _ _ 3 (.tmp 135) rfl (.pointer (some ⟨gF, m, none⟩)) _ rfl (run_loadAny w gF m 3 _ Try.isAgg3 hw.2.2)) hH ?_
                simp only [Act.put, List.setIfInBounds_toArray, List.set_cons_zero, List.set_cons_succ]
                refine take_to 13 137 (.agg #[.int .i64 (m : Int), .int .i64 y]) rfl (by kernel_rfl) (by kernel_rfl) (by kernel_rfl) (fun _ _ _ h => h) rfl (by rfl) (fun w hw => op_build45 _ _ (.tmp 133) (.tmp 136) rfl _ _ rfl rfl) hH ?_
                simp only [Act.put, List.setIfInBounds_toArray, List.set_cons_zero, List.set_cons_succ]
                refine take_to 14 138 (.bool false) rfl (by kernel_rfl) (by kernel_rfl) (by kernel_rfl) (fun _ _ _ h => h) rfl (by rfl) (fun w hw => op_neq45 _ _ (.tmp 132) (.tmp 137) 45 rfl _ _ rfl rfl) hH ?_
                simp only [Act.put, List.setIfInBounds_toArray, List.set_cons_zero, List.set_cons_succ]
                refine take_to 15 139 (.bool false) rfl (by kernel_rfl) (by kernel_rfl) (by kernel_rfl) (fun _ _ _ h => h) rfl (by rfl) (fun w hw => by rfl) hH ?_
                simp only [Act.put, List.setIfInBounds_toArray, List.set_cons_zero, List.set_cons_succ]
                refine wpAnyH_done (by kernel_rfl) ?_ _

                go_wp2_with fail
                go_roundw
                case rel => exact ⟨m + 1, by omega, by go_num, by rw [HNX.out]; go_num, HBX.out.trans (below_drewN _ _ 1)⟩
                case measure => simp [intOf]; omega
            · have hm' : m = 6 := by omega
              subst hm'
              have hkn : kk = nd := by rw [← hkk', HND.out]
              subst hkn
              have HPX := hide (HP7.out.belowW hbx)
              have HWT := hide (pc_writes HPX.out)
              have HFX := hide (HFF7.out.belowW hbx)
              have HLX := hide (HLL7.out.belowW hbx)
              rw [hkk']
              clear hbx cF hkk'
              go_wp2_with (go_at_call 15; refine HWT.out.mono ?_; rintro e w' ⟨rfl, hw⟩; have hw := hw.symm; subst hw)
              go_roundw
              case rel => exact ⟨k + 1, FF, LL, nn, by omega, by go_num, by first | rfl | (rw [← hnn]; rfl), hnnk, HPX.out, HFX.out, HLX.out⟩
              case measure => simp [intOf]; omega
    · have HAW := hide (fun W => awake_any W)
      have HB := hide HP.out.below
      by_cases hlt : k < len0
      · have hk60 : ¬ ((k : Int) < 60) := by omega
        clear HP HF HL hgo
        go_wp2_with (go_at_call 16; refine (HAW.out _).mono ?_; rintro e w4 ⟨rfl, hb4⟩)
        go_ret
        exact ⟨rfl, HB.out.trans (hb4.mono HB.out.size)⟩
      · clear HP HF HL hgo
        go_wp2_with (go_at_call 16; refine (HAW.out _).mono ?_; rintro e w4 ⟨rfl, hb4⟩)
        go_ret
        exact ⟨rfl, HB.out.trans (hb4.mono HB.out.size)⟩
end Go.Proofs.Ytifoafiidplpiaa
