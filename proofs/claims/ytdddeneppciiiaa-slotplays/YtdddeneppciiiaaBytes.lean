/- 'bytes': a page laid out. -/
import Derived.Test.YtdddeneppciiiaaBytesP
namespace Go.Proofs.Ytdddeneppciiiaa
open Go.RowKit
set_option linter.unusedVariables false
set_option linter.unusedSimpArgs false

theorem tsize_take_le (S : List Slt) (k : Nat) (hk : k ≤ S.length) : tsize (S.take k) ≤ tsize S := by
  have := blen_take_le S k
  simp only [tsize, List.length_take]; omega
theorem Blk.alloc {w : World} {g : Nat} {X : List UInt8} (h : Blk w g X) (o : Obj) : Blk (w.alloc o) g X := by
  unfold Blk at *
  rw [Below.heap_alloc _ _ _ (lt_of_heap h)]
  exact h
set_option maxHeartbeats 2000000 in
set_option maxRecDepth 100000 in
theorem bytes_any {w : World} {v : Value} {S : List Slt} (h : SlotsAt w v S) (nx : Nat) (hnx : nx < 4294967296) (hs : tsize S ≤ 504) :
    Calls Try.prog 26 #[pageV nx v] w fun e w' => ∃ g, e = .returned (.slice (some ⟨g, 0, none⟩) 504 504) ∧ w.heap.size ≤ g ∧ Blk w' g (encN S.length nx S) ∧ Below w.heap.size w w' := by
  have HS := hide h
  obtain ⟨ao, c, rfl, h1, h2, h3⟩ := h
  simp only [maxLen] at h2
  unfold pageV
  have hmk := make504
  have hL : 4 * S.length ≤ 504 := by unfold tsize at hs; omega
  have HTS : Hid (∀ k, k ≤ S.length → tsize (S.take k) ≤ 504) := fun k hk => Nat.le_trans (tsize_take_le S k hk) hs
  have HLN : Hid (∀ k, k < S.length → S.take (k + 1) = S.take k ++ [S.getD k none]) := fun k hk => by rw [List.take_succ_eq_append_getElem hk]; simp [hk]
  have HTK : Hid (∀ k, k ≤ S.length → (S.take k).length = k) := fun k hk => by rw [List.length_take]; omega
  have HTL : Hid (S.take S.length = S) := List.take_length
  have HBL : Hid (∀ k, k ≤ S.length → 6 + 4 * k + blen (S.take k) ≤ 504) := fun k hk => by have := HTS.out k hk; unfold tsize at this; rw [HTK.out k hk] at this; exact this
  clear h3 hs
  have hW1 : ((w.alloc (.cells #[.int .i64 (nx : Int), .slice ao S.length c] 56)).alloc (.cells (secCells (zerosN 504)).toArray 5)).heap[w.heap.size]? = some (.cells #[.int .i64 (nx : Int), .slice ao S.length c] 56) := by
    rw [Below.heap_alloc _ _ _ (by simp)]
    exact heap_alloc_new w _
  have hW2 : Blk ((w.alloc (.cells #[.int .i64 (nx : Int), .slice ao S.length c] 56)).alloc (.cells (secCells (zerosN 504)).toArray 5)) (w.heap.size + 1) (zerosN 504) := by
    have := heap_alloc_new (w.alloc (.cells #[.int .i64 (nx : Int), .slice ao S.length c] 56)) (.cells (secCells (zerosN 504)).toArray 5)
    rw [World.size_alloc] at this
    exact this
  have hW3 : Below w.heap.size w ((w.alloc (.cells #[.int .i64 (nx : Int), .slice ao S.length c] 56)).alloc (.cells (secCells (zerosN 504)).toArray 5)) := ((Below.refl _ _).alloc (Nat.le_refl _) _).alloc (by simp) _
  have hW4 : w.heap.size + 1 < ((w.alloc (.cells #[.int .i64 (nx : Int), .slice ao S.length c] 56)).alloc (.cells (secCells (zerosN 504)).toArray 5)).heap.size := by simp
  generalize hL0 : S.length = L at *
  clear hL0
  go_enter Try.func26, Try.ntmps26
  go_wp2
  generalize (w.alloc (.cells #[.int .i64 (nx : Int), .slice ao L c] 56)).alloc (.cells (secCells (zerosN 504)).toArray 5) = W0 at *
  have c1 : W0.cell? ⟨w.heap.size, 1, none⟩ = some (.slice ao L c) := by rw [cell_row hW1]; rfl
  have c0 : W0.cell? ⟨w.heap.size, 0, none⟩ = some (.int .i64 (nx : Int)) := by rw [cell_row hW1]; rfl
  have HB0 := hide hW2
  have HW3 := hide hW3
  clear hW1 hW2 hmk hW3
  generalize hbs : w.heap.size = b at *
  have HLY := hide (lay_any (w := W0.drew) (g := b + 1) (o := 0) (k := 2) (c := 504) (v := L) HB0.out (by simp [zerosN]) (by omega) (by omega) (by omega))
  refine wp_region_held_drew (S := fun w' => w'.cell? ⟨b, 1, none⟩ = some (.slice ao L c)) (by kernel_rfl) c1 (fun hH => ?_)
  refine take_to 0 9 (.slice (some ⟨b + 1, 0, none⟩) 504 504) rfl (by kernel_rfl) (by kernel_rfl) (by kernel_rfl) (fun _ _ _ h => h) rfl (by rfl) (fun w hw => by rfl) hH ?_
  simp only [Act.put, List.setIfInBounds_toArray, List.set_cons_zero, List.set_cons_succ]
  refine take_to 1 10 (.slice (some ⟨b + 1, 0, none⟩) 2 504) rfl (by kernel_rfl) (by kernel_rfl) (by kernel_rfl) (fun _ _ _ h => h) rfl (by rfl) (fun w hw => op_slice _ _ 23 (.tmp 9) none (some (.const (.int .i64 2))) none rfl _ _ none (some (.int .i64 2)) rfl rfl rfl rfl (run_cut_to w _ 504 504 2 (by omega))) hH ?_
  simp only [Act.put, List.setIfInBounds_toArray, List.set_cons_zero, List.set_cons_succ]
  refine take_to 2 11 (.pointer (some ⟨b, 1, none⟩)) rfl (by kernel_rfl) (by kernel_rfl) (by kernel_rfl) (fun _ _ _ h => h) rfl (by rfl) (fun w hw => by rfl) hH ?_
  simp only [Act.put, List.setIfInBounds_toArray, List.set_cons_zero, List.set_cons_succ]
  refine take_to 3 12 (.slice ao L c) rfl (by kernel_rfl) (by kernel_rfl) (by kernel_rfl) (fun _ _ _ h => h) rfl (by rfl) (fun w hw => op_load _ _ 54 (.tmp 11) rfl (.pointer (some ⟨b, 1, none⟩)) _ rfl (run_loadAny w b 1 54 _ Try.isAgg54 hw)) hH ?_
  simp only [Act.put, List.setIfInBounds_toArray, List.set_cons_zero, List.set_cons_succ]
  refine take_to 4 13 (.int .i64 (L : Int)) rfl (by kernel_rfl) (by kernel_rfl) (by kernel_rfl) (fun _ _ _ h => h) rfl (by rfl) (fun w hw => op_len _ _ (.tmp 12) 54 61 Try.underlying54 rfl ao L c rfl) hH ?_
  simp only [Act.put, List.setIfInBounds_toArray, List.set_cons_zero, List.set_cons_succ]
  refine step_call2_to 5 14 41 rfl (by kernel_rfl) rfl (by rfl) (.tmp 10) (.tmp 13) _ rfl _ _ rfl rfl Try.enters41 (HLY.out) ?_
  rintro e W1 ⟨rfl, hB1, hO1', hz1⟩
  have hO1 : Off [b + 1] W0 W1 := hO1'.undrewN (m := 1)
  have c11 := hO1.cell (p := ⟨b, 1, none⟩) (by simp) c1
  have c01 := hO1.cell (p := ⟨b, 0, none⟩) (by simp) c0
  refine ⟨_, rfl, c11, ?_⟩
  simp only [Act.put, List.setIfInBounds_toArray, List.set_cons_zero, List.set_cons_succ]
  refine wpAnyH_done (by kernel_rfl) ?_ _
  have HB1 := hide hB1
  have hz1' : W1.heap.size = W0.heap.size := hz1
  have HO1 := hide (HW3.out.trans (hO1.below (B := b) (by omega) (by simp)))
  clear hB1 hO1 hO1' hH HLY hz1 c1 c0 HB0 HW3
  have HLY := hide (lay_any (w := W1.drew) (g := b + 1) (o := 2) (k := 4) (c := 502) (v := nx) HB1.out (by rw [length_patch (by simp [zerosN, length_be])]; simp [zerosN]) (by omega) (by omega) (by omega))
  go_wp2
  refine wp_region_held_drew (S := fun w' => w'.cell? ⟨b, 0, none⟩ = some (.int .i64 (nx : Int))) (by kernel_rfl) c01 (fun hH => ?_)
  refine take_to 0 15 (.slice (some ⟨b + 1, 0, none⟩) 504 504) rfl (by kernel_rfl) (by kernel_rfl) (by kernel_rfl) (fun _ _ _ h => h) rfl (by rfl) (fun w hw => by rfl) hH ?_
  simp only [Act.put, List.setIfInBounds_toArray, List.set_cons_zero, List.set_cons_succ]
  refine take_to 1 16 (.slice (some ⟨b + 1, 2, none⟩) 4 502) rfl (by kernel_rfl) (by kernel_rfl) (by kernel_rfl) (fun _ _ _ h => h) rfl (by rfl) (fun w hw => op_slice _ _ 23 (.tmp 15) (some (.const (.int .i64 2))) (some (.const (.int .i64 6))) none rfl _ _ (some (.int .i64 2)) (some (.int .i64 6)) rfl rfl rfl rfl (run_cut_at w (b + 1) 0 504 504 2 6 4 rfl (by omega) (by omega))) hH ?_
  simp only [Act.put, List.setIfInBounds_toArray, List.set_cons_zero, List.set_cons_succ]
  refine take_to 2 17 (.pointer (some ⟨b, 0, none⟩)) rfl (by kernel_rfl) (by kernel_rfl) (by kernel_rfl) (fun _ _ _ h => h) rfl (by rfl) (fun w hw => by rfl) hH ?_
  simp only [Act.put, List.setIfInBounds_toArray, List.set_cons_zero, List.set_cons_succ]
  refine take_to 3 18 (.int .i64 (nx : Int)) rfl (by kernel_rfl) (by kernel_rfl) (by kernel_rfl) (fun _ _ _ h => h) rfl (by rfl) (fun w hw => op_load _ _ 3 (.tmp 17) rfl (.pointer (some ⟨b, 0, none⟩)) _ rfl (run_loadAny w b 0 3 _ Try.isAgg3 hw)) hH ?_
  simp only [Act.put, List.setIfInBounds_toArray, List.set_cons_zero, List.set_cons_succ]
  refine step_call2_to 4 19 41 rfl (by kernel_rfl) rfl (by rfl) (.tmp 16) (.tmp 18) _ rfl _ _ rfl rfl Try.enters41 (HLY.out) ?_
  rintro e W2 ⟨rfl, hB2, hO2', hz2⟩
  have hO2 : Off [b + 1] W1 W2 := hO2'.undrewN (m := 1)
  have c12 := hO2.cell (p := ⟨b, 1, none⟩) (by simp) c11
  have c02 := hO2.cell (p := ⟨b, 0, none⟩) (by simp) c01
  refine ⟨_, rfl, c02, ?_⟩
  simp only [Act.put, List.setIfInBounds_toArray, List.set_cons_zero, List.set_cons_succ]
  refine wpAnyH_done (by kernel_rfl) ?_ _
  rw [encN_nil] at hB2
  have HB2 := hide hB2
  have hz2' : W2.heap.size = W1.heap.size := hz2
  have HO2 := hide (HO1.out.trans (hO2.below (B := b) (by omega) (by simp)))
  clear hB2 hO2 hO2' hH HLY hz2 c11 c01 c02 HB1 HO1
  go_wp2
  go_loopw [25, 4] (fun i lo wr => ∃ k lw : Nat, k ≤ L ∧ i = .int .i64 (k : Int) ∧ lo = .int .i64 (lw : Int) ∧ lw + blen (S.take k) = 504 ∧ Blk wr (b + 1) (encN L nx (S.take k)) ∧ Below b w wr ∧ b + 1 < wr.heap.size) (fun i _ _ => L - (intOf i).toNat)
  case atStart => exact ⟨0, 504, Nat.zero_le _, rfl, rfl, by simp [blen], HB2.out, HO2.out, by omega⟩
  case round =>
    obtain ⟨k, lw, hk, rfl, rfl, hlw, hB, hBb, hsz⟩ := hrel
    have HB := hide hB
    have HBb := hide hBb
    have Hlw := hide hlw
    clear hB hBb hlw c12 HB2 HO2 hz1' hz2' hW4
    by_cases hlt : k < L
    · have hb0 := hbs
      subst hb0
      obtain ⟨ao', c', e', _, _, h3⟩ := HS.out.below HBb.out
      injection e' with e1 e2 e3
      subst e1 e3
      obtain ⟨g, o, m, ad, ac, rfl, k1, k2, k3, k4⟩ := h3 k (by omega)
      have hg := World.block_lt_of_cell? wr _ k1
      have HE := hide (HLN.out k hlt)
      have HT1 := hide (HTS.out (k + 1) (by omega))
      have HT2 := hide (HTK.out k (by omega))
      have HT3 := hide (HBL.out (k + 1) (by omega))
      clear h3 e2
      cases hd : S.getD k none with
      | none =>
        rw [hd] at k1
        rw [hd] at HE
        have HX : Hid (encN L nx (S.take (k + 1)) = encN L nx (S.take k)) := by
          rw [Hid, HE.out]
          refine encN_none ?_
          rw [← HE.out]
          exact HT1.out
        have HY : Hid (blen (S.take (k + 1)) = blen (S.take k)) := by rw [Hid, HE.out, blen_append]; simp [blen, slen]
        clear k3 k4 hd HE
        go_wp2
        go_roundw
        case rel => exact ⟨k + 1, lw, by omega, by go_num, rfl, by rw [HY.out]; exact Hlw.out, by rw [HX.out]; exact HB.out.alloc _, HBb.out.alloc (by omega) _, by simp; omega⟩
        case measure => simp [intOf]; omega
      | some d =>
        rw [hd] at k1 k3 k4
        rw [hd] at HE
        have hm : m = d.length := k3
        have hmw : blen (S.take (k + 1)) = blen (S.take k) + m := by rw [HE.out, blen_append, hm]; simp [blen, slen]
        have hfit : 6 + 4 * (k + 1) + m ≤ lw := by have := HT3.out; have := Hlw.out; omega
        have hlw5 : lw ≤ 504 := by have := Hlw.out; omega
        obtain ⟨lo, hlo⟩ : ∃ lo, lo + m = lw := ⟨lw - m, by omega⟩
        have HX : Hid (patch (patch (patch (encN L nx (S.take k)) lo d) (6 + 4 * k) (be 2 lo)) (8 + 4 * k) (be 2 (m + 1)) = encN L nx (S.take (k + 1))) := by
          have := encN_some (L := L) (nx := nx) (T := S.take k) (d := d) (by rw [← HE.out]; exact HT1.out)
          rw [HT2.out, ← HE.out, show 504 - blen (S.take k) - d.length = lo by have := Hlw.out; omega, ← hm] at this
          exact this
        have HLE : Hid ((encN L nx (S.take k)).length = 504) := length_encN (HTS.out k (by omega))
        have Hmw := hide hmw
        have K4 := hide k4
        have Hm := hide hm
        clear k3 k4 hd HE hmw hm
        go_wp2
        have r1 : (wr.alloc (.cells #[.bool true, .slice ad m ac] 61)).cell? ⟨wr.heap.size, 1, none⟩ = some (.slice ad m ac) := by rw [cell_row (heap_alloc_new wr _)]; rfl
        have HB3 := hide (HB.out.alloc (.cells #[.bool true, .slice ad m ac] 61))
        have HBb3 := hide (HBb.out.alloc (Nat.le_of_lt (Nat.lt_of_succ_lt hsz)) (.cells #[.bool true, .slice ad m ac] 61))
        have hsz3 : wr.heap.size < (wr.alloc (.cells #[.bool true, .slice ad m ac] 61)).heap.size := by simp
        have HD3 : Hid (Sl (wr.alloc (.cells #[.bool true, .slice ad m ac] 61)) (.slice ad m ac) d) := Sl.belowW K4.out ((Below.refl _ _).alloc (Nat.le_refl _) _)
        clear k1 k2 K4
        generalize wr.alloc (.cells #[.bool true, .slice ad m ac] 61) = W3 at *
        generalize hrb : wr.heap.size = rb at *
        have sub1 : IntKind.i64.wrap ((lw : Int) - (m : Int)) = (lo : Int) := wrapN (by omega) (by omega)
        refine wp_region_held_drew (S := fun w' => w'.cell? ⟨rb, 1, none⟩ = some (.slice ad m ac)) (by kernel_rfl) r1 (fun hH => ?_)
        refine take_to 0 33 (.int .i64 (lw : Int)) rfl (by kernel_rfl) (by kernel_rfl) (by kernel_rfl) (fun _ _ _ h => h) rfl (by rfl) (fun w hw => by rfl) hH ?_
        simp only [Act.put, List.setIfInBounds_toArray, List.set_cons_zero, List.set_cons_succ]
        refine take_to 1 34 (.slice (some ⟨w.heap.size + 1, 0, none⟩) 504 504) rfl (by kernel_rfl) (by kernel_rfl) (by kernel_rfl) (fun _ _ _ h => h) rfl (by rfl) (fun w hw => by rfl) hH ?_
        simp only [Act.put, List.setIfInBounds_toArray, List.set_cons_zero, List.set_cons_succ]
        refine take_to 2 35 (.int .i64 (lw : Int)) rfl (by kernel_rfl) (by kernel_rfl) (by kernel_rfl) (fun _ _ _ h => h) rfl (by rfl) (fun w hw => by rfl) hH ?_
        simp only [Act.put, List.setIfInBounds_toArray, List.set_cons_zero, List.set_cons_succ]
        refine take_to 3 36 (.pointer (some ⟨rb, 1, none⟩)) rfl (by kernel_rfl) (by kernel_rfl) (by kernel_rfl) (fun _ _ _ h => h) rfl (by rfl) (fun w hw => by rfl) hH ?_
        simp only [Act.put, List.setIfInBounds_toArray, List.set_cons_zero, List.set_cons_succ]
        refine take_to 4 37 (.slice ad m ac) rfl (by kernel_rfl) (by kernel_rfl) (by kernel_rfl) (fun _ _ _ h => h) rfl (by rfl) (fun w hw => op_load _ _ 23 (.tmp 36) rfl (.pointer (some ⟨rb, 1, none⟩)) _ rfl (run_loadAny w rb 1 23 _ Try.isAgg23 hw)) hH ?_
        simp only [Act.put, List.setIfInBounds_toArray, List.set_cons_zero, List.set_cons_succ]
        refine take_to 5 38 (.int .i64 (m : Int)) rfl (by kernel_rfl) (by kernel_rfl) (by kernel_rfl) (fun _ _ _ h => h) rfl (by rfl) (fun w hw => op_len _ _ (.tmp 37) 23 5 Try.underlying23 rfl ad m ac rfl) hH ?_
        simp only [Act.put, List.setIfInBounds_toArray, List.set_cons_zero, List.set_cons_succ]
        refine take_to 6 39 (.int .i64 (lo : Int)) rfl (by kernel_rfl) (by kernel_rfl) (by kernel_rfl) (fun _ _ _ h => h) rfl (by rfl) (fun w hw => op_sub3 _ _ (.tmp 35) (.tmp 38) 3 rfl (lw : Int) (m : Int) rfl rfl (lo : Int) sub1) hH ?_
        simp only [Act.put, List.setIfInBounds_toArray, List.set_cons_zero, List.set_cons_succ]
        refine take_to 7 40 (.int .i64 (lw : Int)) rfl (by kernel_rfl) (by kernel_rfl) (by kernel_rfl) (fun _ _ _ h => h) rfl (by rfl) (fun w hw => by rfl) hH ?_
        simp only [Act.put, List.setIfInBounds_toArray, List.set_cons_zero, List.set_cons_succ]
        refine take_to 8 41 (.slice (cutAt (some ⟨w.heap.size + 1, 0, none⟩) 504 lo) m (504 - lo)) rfl (by kernel_rfl) (by kernel_rfl) (by kernel_rfl) (fun _ _ _ h => h) rfl (by rfl) (fun w' hw => op_slice _ _ 23 (.tmp 34) (some (.tmp 39)) (some (.tmp 40)) none rfl _ _ (some (.int .i64 (lo : Int))) (some (.int .i64 (lw : Int))) rfl rfl rfl rfl (by have := run_cut_mid w' (some ⟨w.heap.size + 1, 0, none⟩) 504 504 lo lw (by omega) (by omega); rwa [show lw - lo = m by omega] at this)) hH ?_
        simp only [Act.put, List.setIfInBounds_toArray, List.set_cons_zero, List.set_cons_succ]
        refine take_to 9 42 (.pointer (some ⟨rb, 1, none⟩)) rfl (by kernel_rfl) (by kernel_rfl) (by kernel_rfl) (fun _ _ _ h => h) rfl (by rfl) (fun w hw => by rfl) hH ?_
        simp only [Act.put, List.setIfInBounds_toArray, List.set_cons_zero, List.set_cons_succ]
        refine take_to 10 43 (.slice ad m ac) rfl (by kernel_rfl) (by kernel_rfl) (by kernel_rfl) (fun _ _ _ h => h) rfl (by rfl) (fun w hw => op_load _ _ 23 (.tmp 42) rfl (.pointer (some ⟨rb, 1, none⟩)) _ rfl (run_loadAny w rb 1 23 _ Try.isAgg23 hw)) hH ?_
        simp only [Act.put, List.setIfInBounds_toArray, List.set_cons_zero, List.set_cons_succ]
        refine step_copy_to 11 44 rfl (by kernel_rfl) rfl rfl (.tmp 41) (.tmp 43) rfl _ ad m _ ac rfl rfl (w.heap.size + 1) lo (encN L nx (S.take k)) d HB3.out HD3.out (fun hp => by unfold cutAt; rw [if_neg (by omega), Option.map_some, Addr.add_mid, Nat.zero_add]) (by rw [HLE.out]; omega) (fun W4 hB4 hO4 hz4 => ?_)
        have hO4' : Off [w.heap.size + 1] W3 W4 := hO4.undrewN (m := 1)
        have r14 := hO4'.cell (p := ⟨rb, 1, none⟩) (by simp; omega) r1
        refine ⟨r14, ?_⟩
        simp only [Act.put, List.setIfInBounds_toArray, List.set_cons_zero, List.set_cons_succ]
        refine step_to 12 45 (.int .i64 (lo : Int)) W4 rfl (by kernel_rfl) rfl (by rfl) (op_sub3 _ _ (.tmp 33) (.tmp 44) 3 rfl (lw : Int) (m : Int) rfl rfl (lo : Int) sub1) r14 ?_
        simp only [Act.put, List.setIfInBounds_toArray, List.set_cons_zero, List.set_cons_succ]
        refine step_to 13 4 (.int .i64 (lo : Int)) W4 rfl (by kernel_rfl) rfl (by rfl) (rfl) r14 ?_
        simp only [Act.put, List.setIfInBounds_toArray, List.set_cons_zero, List.set_cons_succ]
        refine wpAnyH_done (by kernel_rfl) ?_ _
        have hz4' : W4.heap.size = W3.heap.size := hz4
        have HB4 := hide hB4
        have hBb4 := HBb3.out.trans (hO4'.below (B := w.heap.size) (by omega) (by simp))
        have HBb4 := hide hBb4
        have HL4 : Hid ((patch (encN L nx (S.take k)) lo d).length = 504) := by rw [Hid, length_patch (by rw [HLE.out, ← Hm.out]; omega), HLE.out]
        have hcut : ∀ u, (Instr.sliceAt 23 (.slice (some ⟨w.heap.size + 1, 0, none⟩) 504 504) (some (.int .i64 (6 + (k : Int) * 4))) (some (.int .i64 (6 + (k : Int) * 4 + 2))) none).run Try.prog u = .ok (.slice (some ⟨w.heap.size + 1, 6 + 4 * k, none⟩) 2 (504 - (6 + 4 * k))) u := fun u => by
          have := run_cut_at u (w.heap.size + 1) 0 504 504 (6 + 4 * k) (8 + 4 * k) 2 (by omega) (by omega) (by omega)
          rw [Nat.zero_add, show ((6 + 4 * k : Nat) : Int) = 6 + (k : Int) * 4 by omega, show ((8 + 4 * k : Nat) : Int) = 6 + (k : Int) * 4 + 2 by omega] at this
          exact this
        have HLY := hide (lay_any (w := W4) (g := w.heap.size + 1) (o := 6 + 4 * k) (k := 2) (c := 504 - (6 + 4 * k)) (v := lo) HB4.out (by rw [HL4.out]; omega) (by omega) (by omega) (by omega))
        clear hB4 hO4 hH hz4 r1 HB3 HBb3 HD3 HB hBb4 HLE
        go_wp2_with (go_at_call 41; refine HLY.out.mono ?_; rintro e W5 ⟨rfl, hB5, hO5, hz5⟩)
        have r15 := hO5.cell (p := ⟨rb, 1, none⟩) (by simp; omega) r14
        have HL5 : Hid ((patch (patch (encN L nx (S.take k)) lo d) (6 + 4 * k) (be 2 lo)).length = 504) := by rw [Hid, length_patch (by rw [HL4.out, length_be]; omega), HL4.out]
        have HB5 := hide hB5
        have hBb5 := HBb4.out.trans (hO5.below (B := w.heap.size) (by omega) (by simp))
        have HBb5 := hide hBb5
        have HLY2 := hide (lay_any (w := W5.drew) (g := w.heap.size + 1) (o := 8 + 4 * k) (k := 2) (c := 504 - (8 + 4 * k)) (v := m + 1) HB5.out (by rw [HL5.out]; omega) (by omega) (by omega) (by omega))
        clear hB5 hO5 HLY hcut HB4 HBb4 hBb5 hO4' HL4
        have add1 : IntKind.i64.wrap (6 + (k : Int) * 4 + 2) = 6 + (k : Int) * 4 + 2 := by rw [IntKind.wrap_i64]; omega
        have add2 : IntKind.i64.wrap (6 + (k : Int) * 4 + 4) = 6 + (k : Int) * 4 + 4 := by rw [IntKind.wrap_i64]; omega
        have add3 : IntKind.i64.wrap ((m : Int) + 1) = ((m + 1 : Nat) : Int) := by rw [IntKind.wrap_i64]; omega
        go_wp2
        have HCUT : Hid (∀ u, (Instr.sliceAt 23 (.slice (some ⟨w.heap.size + 1, 0, none⟩) 504 504) (some (.int .i64 (6 + (k : Int) * 4 + 2))) (some (.int .i64 (6 + (k : Int) * 4 + 4))) none).run Try.prog u = .ok (.slice (some ⟨w.heap.size + 1, 8 + 4 * k, none⟩) 2 (504 - (8 + 4 * k))) u) := fun u => by
          have := run_cut_at u (w.heap.size + 1) 0 504 504 (8 + 4 * k) (10 + 4 * k) 2 (by omega) (by omega) (by omega)
          rw [Nat.zero_add, show ((8 + 4 * k : Nat) : Int) = 6 + (k : Int) * 4 + 2 by omega, show ((10 + 4 * k : Nat) : Int) = 6 + (k : Int) * 4 + 4 by omega] at this
          exact this
        refine wp_region_held_drew (S := fun w' => w'.cell? ⟨rb, 1, none⟩ = some (.slice ad m ac)) (by kernel_rfl) r15 (fun hH => ?_)
        refine take_to 0 56 (.slice (some ⟨w.heap.size + 1, 0, none⟩) 504 504) rfl (by kernel_rfl) (by kernel_rfl) (by kernel_rfl) (fun _ _ _ h => h) rfl (by rfl) (fun w hw => by rfl) hH ?_
        simp only [Act.put, List.setIfInBounds_toArray, List.set_cons_zero, List.set_cons_succ]
        refine take_to 1 57 (.int .i64 (6 + (k : Int) * 4)) rfl (by kernel_rfl) (by kernel_rfl) (by kernel_rfl) (fun _ _ _ h => h) rfl (by rfl) (fun w hw => by rfl) hH ?_
        simp only [Act.put, List.setIfInBounds_toArray, List.set_cons_zero, List.set_cons_succ]
        refine take_to 2 58 (.int .i64 (6 + (k : Int) * 4 + 2)) rfl (by kernel_rfl) (by kernel_rfl) (by kernel_rfl) (fun _ _ _ h => h) rfl (by rfl) (fun w hw => op_add3 _ _ (.tmp 57) (.const (.int .i64 2)) 3 rfl _ _ rfl rfl _ add1) hH ?_
        simp only [Act.put, List.setIfInBounds_toArray, List.set_cons_zero, List.set_cons_succ]
        refine take_to 3 59 (.int .i64 (6 + (k : Int) * 4)) rfl (by kernel_rfl) (by kernel_rfl) (by kernel_rfl) (fun _ _ _ h => h) rfl (by rfl) (fun w hw => by rfl) hH ?_
        simp only [Act.put, List.setIfInBounds_toArray, List.set_cons_zero, List.set_cons_succ]
        refine take_to 4 60 (.int .i64 (6 + (k : Int) * 4 + 4)) rfl (by kernel_rfl) (by kernel_rfl) (by kernel_rfl) (fun _ _ _ h => h) rfl (by rfl) (fun w hw => op_add3 _ _ (.tmp 59) (.const (.int .i64 4)) 3 rfl _ _ rfl rfl _ add2) hH ?_
        simp only [Act.put, List.setIfInBounds_toArray, List.set_cons_zero, List.set_cons_succ]
        refine take_to 5 61 (.slice (some ⟨w.heap.size + 1, 8 + 4 * k, none⟩) 2 (504 - (8 + 4 * k))) rfl (by kernel_rfl) (by kernel_rfl) (by kernel_rfl) (fun _ _ _ h => h) rfl (by rfl) (fun w' hw => op_slice _ _ 23 (.tmp 56) (some (.tmp 58)) (some (.tmp 60)) none rfl _ _ (some (.int .i64 (6 + (k : Int) * 4 + 2))) (some (.int .i64 (6 + (k : Int) * 4 + 4))) rfl rfl rfl rfl (HCUT.out w')) hH ?_
        simp only [Act.put, List.setIfInBounds_toArray, List.set_cons_zero, List.set_cons_succ]
        refine take_to 6 62 (.pointer (some ⟨rb, 1, none⟩)) rfl (by kernel_rfl) (by kernel_rfl) (by kernel_rfl) (fun _ _ _ h => h) rfl (by rfl) (fun w hw => by rfl) hH ?_
        simp only [Act.put, List.setIfInBounds_toArray, List.set_cons_zero, List.set_cons_succ]
        refine take_to 7 63 (.slice ad m ac) rfl (by kernel_rfl) (by kernel_rfl) (by kernel_rfl) (fun _ _ _ h => h) rfl (by rfl) (fun w hw => op_load _ _ 23 (.tmp 62) rfl (.pointer (some ⟨rb, 1, none⟩)) _ rfl (run_loadAny w rb 1 23 _ Try.isAgg23 hw)) hH ?_
        simp only [Act.put, List.setIfInBounds_toArray, List.set_cons_zero, List.set_cons_succ]
        refine take_to 8 64 (.int .i64 (m : Int)) rfl (by kernel_rfl) (by kernel_rfl) (by kernel_rfl) (fun _ _ _ h => h) rfl (by rfl) (fun w hw => op_len _ _ (.tmp 63) 23 5 Try.underlying23 rfl ad m ac rfl) hH ?_
        simp only [Act.put, List.setIfInBounds_toArray, List.set_cons_zero, List.set_cons_succ]
        refine take_to 9 65 (.int .i64 ((m + 1 : Nat) : Int)) rfl (by kernel_rfl) (by kernel_rfl) (by kernel_rfl) (fun _ _ _ h => h) rfl (by rfl) (fun w hw => op_add3 _ _ (.tmp 64) (.const (.int .i64 1)) 3 rfl _ _ rfl rfl _ add3) hH ?_
        simp only [Act.put, List.setIfInBounds_toArray, List.set_cons_zero, List.set_cons_succ]
        refine step_call2_to 10 66 41 rfl (by kernel_rfl) rfl (by rfl) (.tmp 61) (.tmp 65) _ rfl _ _ rfl rfl Try.enters41 (HLY2.out) ?_
        rintro e W6 ⟨rfl, hB6, hO6', hz6⟩
        have hO6 : Off [w.heap.size + 1] W5 W6 := hO6'.undrewN (m := 1)
        have r16 := hO6.cell (p := ⟨rb, 1, none⟩) (by simp; omega) r15
        refine ⟨_, rfl, r16, ?_⟩
        simp only [Act.put, List.setIfInBounds_toArray, List.set_cons_zero, List.set_cons_succ]
        refine wpAnyH_done (by kernel_rfl) ?_ _
        rw [HX.out] at hB6
        have hz6' : W6.heap.size = W5.heap.size := hz6
        have HB6 := hide hB6
        have HBb6 := hide (HBb5.out.trans (hO6.below (B := w.heap.size) (by omega) (by simp)))
        clear hB6 hO6 hO6' r16 r15 hH HLY2 HX
        go_wp2
        go_roundw
        case rel => exact ⟨k + 1, lo, by omega, by go_num, rfl, by rw [Hmw.out]; have := Hlw.out; omega, HB6.out, HBb6.out, by omega⟩
        case measure => simp [intOf]; omega
    · have hkL : k = L := by omega
      subst hkL hbs
      rw [HTL.out] at HB
      go_wp2
      go_ret
      exact ⟨_, rfl, by omega, HB.out, HBb.out⟩
end Go.Proofs.Ytdddeneppciiiaa
