/- The document's own file: how it lies in memory; its small functions. -/
import Derived.Test.YtkdlggobbkedmaaRefCrash
import Derived.Test.YtkdlggobbkedmaaGNorm
import Derived.Laws.Strings2
import Derived.Laws.Slices
namespace Go.Proofs.Ytkdlggobbkedmaa
open Go.RowKit
set_option linter.unusedVariables false
set_option linter.unusedSimpArgs false

/-! ### Strings -/
theorem extract_str (s : List UInt8) (a b : Nat) : (strOf s).extract a b = strOf ((s.drop a).take (b - a)) := by
  unfold strOf
  rw [ByteArray.extract_mk]
theorem run_cutstr (u : World) (s : List UInt8) (a b : Nat) (h1 : a ≤ b) (h2 : b ≤ s.length) :
    (Instr.sliceAt 9 (.string (strOf s)) (some (.int .i64 (a : Int))) (some (.int .i64 (b : Int))) none).run Try.prog u = .ok (.string (strOf ((s.drop a).take (b - a)))) u := by
  rw [run_sliceAt_string _ 9 _ _ _ _ Try.underlying9, run_slice_string _ 9 _ _ _ _ _ Try.underlying9 (by omega) (by omega) (by rw [size_strOf]; omega)]
  simp only [Int.toNat_natCast]
  rw [extract_str]
theorem run_cutstr_from (u : World) (s : List UInt8) (a : Nat) (h1 : a ≤ s.length) :
    (Instr.sliceAt 9 (.string (strOf s)) (some (.int .i64 (a : Int))) none none).run Try.prog u = .ok (.string (strOf (s.drop a))) u := by
  rw [run_sliceAt_string _ 9 _ _ _ _ Try.underlying9, run_slice_string_l _ 9 _ Try.underlying9 _ _ (by omega) (by rw [size_strOf]; omega)]
  simp only [Int.toNat_natCast]
  rw [extract_str, size_strOf, List.take_of_length_le (by simp)]
theorem strOf_append (a b : List UInt8) : strOf a ++ strOf b = strOf (a ++ b) := by
  simp only [strOf, ByteArray.mk_append_mk]

/-! ### In memory -/
def RFileAt (w : World) (q p : Nat) (fr n : Nat) (failed : Bool) : Prop := w.heap[q]? = some (.cells #[.pointer (some ⟨p, 0, none⟩), .int .i64 (fr : Int), .int .i64 (n : Int), .bool failed] 75 (0, 0))
section
variable {w w' : World} {q p fr n : Nat} {failed : Bool}
theorem RFileAt.c0 (h : RFileAt w q p fr n failed) : w.cell? ⟨q, 0, none⟩ = some (.pointer (some ⟨p, 0, none⟩)) := by rw [cell_of_row w q 0 _ _ _ h]; rfl
theorem RFileAt.c1 (h : RFileAt w q p fr n failed) : w.cell? ⟨q, 1, none⟩ = some (.int .i64 (fr : Int)) := by rw [cell_of_row w q 1 _ _ _ h]; rfl
theorem RFileAt.c2 (h : RFileAt w q p fr n failed) : w.cell? ⟨q, 2, none⟩ = some (.int .i64 (n : Int)) := by rw [cell_of_row w q 2 _ _ _ h]; rfl
theorem RFileAt.c3 (h : RFileAt w q p fr n failed) : w.cell? ⟨q, 3, none⟩ = some (.bool failed) := by rw [cell_of_row w q 3 _ _ _ h]; rfl
theorem RFileAt.fz (h : RFileAt w q p fr n failed) (o : Nat) : w.frozen? ⟨q, o, none⟩ = false := frozen_of_row w q o _ _ h
theorem RFileAt.lt (h : RFileAt w q p fr n failed) : q < w.heap.size := (Array.getElem?_eq_some_iff.1 h).1
theorem RFileAt.off {fp : List Nat} (h : RFileAt w q p fr n failed) (ho : Off fp w w') (hq : q ∉ fp) : RFileAt w' q p fr n failed := (ho.block q h.lt hq).trans h
theorem RFileAt.below (h : RFileAt w q p fr n failed) (hb : Below w.heap.size w w') : RFileAt w' q p fr n failed := (hb.block q h.lt).trans h
end
theorem RefAt.drewN {w : World} {p : Nat} {fp : List Nat} {D : Dv} (h : RefAt w p fp D) (m : Nat) : RefAt (w.drewN m) p fp D := h.below (below_drewN _ _ _)

set_option maxHeartbeats 400000 in
set_option maxRecDepth 100000 in
theorem fblank_any (w : World) : Calls Try.prog 38 #[] w fun e w' => e = .returned (.string (strOf zeros)) ∧ Below w.heap.size w w' := by
  have hmk := make128
  have hs : (convert 31 9 (.slice (some ⟨w.heap.size, 0, none⟩) 128 128)).run Try.prog (w.alloc (.cells (secPart 0 0 0) 5)) = .ok (.string (strOf zeros)) (w.alloc (.cells (secPart 0 0 0) 5)) :=
    run_str _ _ _ _ zeros length_zeros (by rw [heap_alloc_new, secPart_zero]; rfl)
  go_enter Try.func38, Try.ntmps38
  go_wp2
  go_ret
  exact ⟨rfl, (Below.refl _ _).alloc (Nat.le_refl _) _⟩
section
variable {w : World} {q p fr n : Nat} {failed : Bool} {fp : List Nat} {D : Dv}
theorem rat_any (i : Nat) (h : RFileAt w q p fr n failed) (hfr : fr ≤ 1099511627776) (hi : i ≤ 1099511627776) : Calls Try.prog 36 #[.pointer (some ⟨q, 0, none⟩), .int .i64 (i : Int)] w fun e w' => e = .returned (.int .i64 ((fr + 5 + 4 * i : Nat) : Int)) ∧ w' = w := by
  have k1 := h.c1
  have hw1 : IntKind.i64.wrap ((fr : Int) + 5) = (fr : Int) + 5 := by rw [IntKind.wrap_i64]; omega
  have hw2 : IntKind.i64.wrap (4 * (i : Int)) = 4 * (i : Int) := by rw [IntKind.wrap_i64]; omega
  have hw3 : IntKind.i64.wrap ((fr : Int) + 5 + 4 * (i : Int)) = (fr : Int) + 5 + 4 * (i : Int) := by rw [IntKind.wrap_i64]; omega
  go_enter Try.func36, Try.ntmps36
  go_wp2
  go_ret
  refine ⟨?_, rfl⟩
  show Ending.returned (Value.int .i64 ((fr : Int) + 5 + 4 * (i : Int))) = _
  congr 2

set_option maxHeartbeats 1000000 in
set_option maxRecDepth 100000 in
theorem rput_any (i : Nat) (bs : List UInt8) (hl : bs.length = 512) (hf : RFileAt w q p fr n failed) (hD : RefAt w p fp D) (hwf : D.wf) (hq : q ∉ fp) (hW : D.W.length ≤ 900000) (hi : i ≤ 1099511627776) :
    Calls Try.prog 35 #[.pointer (some ⟨q, 0, none⟩), .int .i64 (i : Int), .string (strOf bs)] w fun e w' => e = .returned (.int .i64 (D.lay i (secsOf 4 bs)).1) ∧
      ∃ fp', RefAt w' p fp' (D.lay i (secsOf 4 bs)).2 ∧ Off fp w w' ∧ ∀ k ∈ fp', k ∈ fp ∨ w.heap.size ≤ k := by
  obtain ⟨R, hR⟩ : ∃ R, D.lay i (secsOf 4 bs) = R := ⟨_, rfl⟩
  rw [hR]
  have HR := hide hR
  have HF := hide hf
  have HQ := hide hq
  have HL := hide hl
  clear hR hf hq hl
  go_enter Try.func35, Try.ntmps35
  go_wp2
  go_loopw [7] (fun j wr => ∃ (k : Nat) (fq : List Nat) (E : Dv), k ≤ 4 ∧ j = .int .i64 k ∧ RefAt wr p fq E ∧ E.wf ∧ Off fp w wr ∧ (∀ x ∈ fq, x ∈ fp ∨ w.heap.size ≤ x) ∧ E.W.length ≤ D.W.length + k ∧ R = E.lay (i + k) (secsOf (4 - k) (bs.drop (128 * k)))) (fun j _ => 5 - (intOf j).toNat)
  case atStart => exact ⟨0, fp, D, by omega, rfl, hD, hwf, Off.refl _ _, fun k hk => .inl hk, by omega, by rw [← HR.out]; rfl⟩
  case round =>
    clear hD hwf
    obtain ⟨k, fq, E, hk, rfl, hD, hwf, hO, hFr, hE, hR⟩ := hrel
    have HO := hide hO
    have HFr := hide hFr
    have HR2 := hide hR
    have hfa := HF.out.off hO HQ.out
    have k0 := hfa.c0
    have hfm := hwf.hi
    clear hO hFr hR HR
    by_cases hlt : k < 4
    · have HWR := hide (fun d : Nat => rwrite_dev p ((i + k : Nat) : Int) ((bs.drop (128 * k)).take 128) (wr.drewN d) fq E (hD.drewN d) hfm (by omega))
      have hst : secsOf (4 - k) (bs.drop (128 * k)) = (bs.drop (128 * k)).take 128 :: secsOf (4 - (k + 1)) (bs.drop (128 * (k + 1))) := by
        rw [show 4 - k = (4 - (k + 1)) + 1 by omega, secsOf, List.drop_drop]
        rfl
      have hWW := write_W E ((i + k : Nat) : Int) ((bs.drop (128 * k)).take 128)
      have hwf2 := wf_write hwf ((i + k : Nat) : Int) ((bs.drop (128 * k)).take 128)
      obtain ⟨X, hX⟩ : ∃ X, E.write ((i + k : Nat) : Int) ((bs.drop (128 * k)).take 128) = X := ⟨_, rfl⟩
      rw [hX] at HWR hWW hwf2
      have HR3 : Hid (R = if X.1 ≠ 0 then X else X.2.lay (i + k + 1) (secsOf (4 - (k + 1)) (bs.drop (128 * (k + 1))))) := by
        have := HR2.out
        rw [hst, Dv.lay, hX] at this
        exact this
      have HK0 := hide (fun (W : World) (ho : Off fq wr W) => (hfa.off ho (fresh_not HQ.out HF.out.lt HFr.out)).c0)
      have HWF2 := hide hwf2
      clear HR2 hst hX hD hfa hwf hwf2
      have hcut : ∀ u, (Instr.sliceAt 9 (.string (strOf bs)) (some (.int .i64 (128 * (k : Int)))) (some (.int .i64 (128 * (k : Int) + 128))) none).run Try.prog u = .ok (.string (strOf ((bs.drop (128 * k)).take 128))) u := fun u => by
        have := run_cutstr u bs (128 * k) (128 * k + 128) (by omega) (by rw [HL.out]; omega)
        rw [show ((128 * k : Nat) : Int) = 128 * (k : Int) by omega, show ((128 * k + 128 : Nat) : Int) = 128 * (k : Int) + 128 by omega, show 128 * k + 128 - 128 * k = 128 by omega] at this
        exact this
      have hw1 : IntKind.i64.wrap ((i : Int) + (k : Int)) = (i : Int) + (k : Int) := by rw [IntKind.wrap_i64]; omega
      have hw0 : IntKind.i64.wrap (128 * (k : Int)) = 128 * (k : Int) := by rw [IntKind.wrap_i64]; omega
      have hw2 : IntKind.i64.wrap (128 * (k : Int) + 128) = 128 * (k : Int) + 128 := by rw [IntKind.wrap_i64]; omega
      rw [show ((i + k : Nat) : Int) = (i : Int) + (k : Int) by omega] at HWR
      generalize (bs.drop (128 * k)).take 128 = cut at *
      obtain ⟨x, E2⟩ := X
      by_cases hx : x = 0
      · subst hx
        go_wp2
        go_region_held (fun w' => w'.cell? ⟨q, 0, none⟩ = some (.pointer (some ⟨p, 0, none⟩))) (simp [*])
          (first | (go_at_call 22; refine (HWR.out 1).mono ?_; rintro e w4 ⟨rfl, fp4, hD4, hO4, hF4⟩; have k04 := HK0.out w4 hO4.undrewN))
        go_wp2
        go_roundw
        case rel =>
          refine ⟨k + 1, fp4, E2, by omega, by go_num, hD4, HWF2.out, HO.out.trans hO4.undrewN (fun x hx => HFr.out x hx), fresh_off HFr.out HO.out hF4, by omega, ?_⟩
          rw [HR3.out, if_neg (by simp)]
          rfl
        case measure => simp [intOf]; omega
      · have HR4 : Hid (R = (x, E2)) := by
          have := HR3.out
          rw [if_pos hx] at this
          exact this
        have hxb : (x != 0) = true := by simpa using hx
        go_wp2
        go_region_held (fun w' => w'.cell? ⟨q, 0, none⟩ = some (.pointer (some ⟨p, 0, none⟩))) (simp [*])
          (first | (go_at_call 22; refine (HWR.out 1).mono ?_; rintro e w4 ⟨rfl, fp4, hD4, hO4, hF4⟩; have k04 := HK0.out w4 hO4.undrewN))
        all_goals go_wp2
        all_goals go_ret
        all_goals
          rw [HR4.out]
          exact ⟨rfl, fp4, hD4, HO.out.trans hO4.undrewN (fun x hx => HFr.out x hx), fresh_off HFr.out HO.out hF4⟩
    · have hkm : k = 4 := by omega
      subst hkm
      have HSY := hide (rsync_dev p wr fq E hD hfm hwf.pos (fun x hx => (hwf.ent x hx).1) (by omega))
      have HR3 : Hid (R = E.sync) := by
        have := HR2.out
        rw [Nat.sub_self, secsOf, Dv.lay] at this
        exact this
      clear HR2 hD
      go_wp2_with (first | (go_at_call 47; refine HSY.out.mono ?_; rintro e w4 ⟨rfl, hD4, hO4⟩))
      go_ret
      rw [HR3.out]
      exact ⟨rfl, fq, hD4, HO.out.trans hO4 (fun i hi => HFr.out i hi), HFr.out⟩

set_option maxHeartbeats 1000000 in
set_option maxRecDepth 100000 in
theorem rhead_any (bs : List UInt8) (hl : bs.length = 128) (hf : RFileAt w q p fr n failed) (hD : RefAt w p fp D) (hwf : D.wf) (hq : q ∉ fp) (hW : D.W.length ≤ 900000) (hi : fr ≤ 1099511627776) :
    Calls Try.prog 37 #[.pointer (some ⟨q, 0, none⟩), .string (strOf bs)] w fun e w' => e = .returned (.int .i64 (D.lay fr [bs]).1) ∧
      ∃ fp', RefAt w' p fp' (D.lay fr [bs]).2 ∧ Off fp w w' ∧ ∀ k ∈ fp', k ∈ fp ∨ w.heap.size ≤ k := by
  obtain ⟨R, hR⟩ : ∃ R, D.lay fr [bs] = R := ⟨_, rfl⟩
  rw [hR]
  have k0 := hf.c0
  have k1 := hf.c1
  have HWR := hide (fun d : Nat => rwrite_dev p (fr : Int) bs (w.drewN d) fp D (hD.drewN d) hwf.hi (by omega))
  have hWW := write_W D (fr : Int) bs
  have hwf2 := wf_write hwf (fr : Int) bs
  rw [Dv.lay] at hR
  obtain ⟨X, hX⟩ : ∃ X, D.write (fr : Int) bs = X := ⟨_, rfl⟩
  have hX' : D.write ((fr : Nat) : Int) bs = X := hX
  rw [hX] at HWR hWW hwf2
  rw [hX'] at hR
  have HR := hide hR
  have HWF2 := hide hwf2
  have HF := hide hf
  have HK0 := hide (fun (W : World) (ho : Off fp w W) => (hf.off ho hq).c0)
  have HK1 := hide (fun (W : World) (ho : Off fp w W) => (hf.off ho hq).c1)
  clear hR hX hX' hwf2 hD hwf hf
  obtain ⟨x, E⟩ := X
  by_cases hx : x = 0
  · subst hx
    have HR2 : Hid (E.sync = R) := by
      have := HR.out
      rw [if_neg (by simp), Dv.lay] at this
      exact this
    go_enter Try.func37, Try.ntmps37
    go_wp2
    go_region_held (fun w' => w'.cell? ⟨q, 0, none⟩ = some (.pointer (some ⟨p, 0, none⟩)) ∧ w'.cell? ⟨q, 1, none⟩ = some (.int .i64 (fr : Int))) (simp [*])
      (first | (go_at_call 22; refine (HWR.out 1).mono ?_; rintro e w4 ⟨rfl, fp4, hD4, hO4, hF4⟩; have k04 := HK0.out w4 hO4.undrewN; have k14 := HK1.out w4 hO4.undrewN))
    all_goals
      have HSY := hide (rsync_dev p w4 fp4 E hD4 HWF2.out.hi HWF2.out.pos (fun x hx => (HWF2.out.ent x hx).1) (by have hWW : E.W.length ≤ D.W.length + 1 := hWW; omega))
      rw [HR2.out] at HSY
      have HO4 := hide hO4.undrewN
      have HF4 := hide hF4
      clear hD4 hO4 hF4
      go_wp2_with (first | (go_at_call 47; refine HSY.out.mono ?_; rintro e w5 ⟨rfl, hD5, hO5⟩))
      go_ret
      exact ⟨rfl, fp4, hD5, HO4.out.trans hO5 HF4.out, HF4.out⟩
  · have HR2 : Hid ((x, E) = R) := by
      have := HR.out
      rw [if_pos hx] at this
      exact this
    have hxb : (x != 0) = true := by simpa using hx
    go_enter Try.func37, Try.ntmps37
    go_wp2
    go_region_held (fun w' => w'.cell? ⟨q, 0, none⟩ = some (.pointer (some ⟨p, 0, none⟩)) ∧ w'.cell? ⟨q, 1, none⟩ = some (.int .i64 (fr : Int))) (simp [*])
      (first | (go_at_call 22; refine (HWR.out 1).mono ?_; rintro e w4 ⟨rfl, fp4, hD4, hO4, hF4⟩; have k04 := HK0.out w4 hO4.undrewN; have k14 := HK1.out w4 hO4.undrewN))
    all_goals go_wp2
    all_goals go_ret
    all_goals
      rw [← HR2.out]
      exact ⟨rfl, fp4, hD4, hO4.undrewN, hF4⟩
/-- k sectors one behind the other. -/
def Dv.row (D : Dv) (i : Nat) : Nat → List UInt8
  | 0 => []
  | k + 1 => D.row i k ++ D.newest (i + k)
theorem length_row {D : Dv} (h : D.wf) (i : Nat) (hi : i + 4 ≤ D.L.length) : ∀ k, k ≤ 4 → (D.row i k).length = 128 * k
  | 0, _ => rfl
  | k + 1, hk => by
    rw [Dv.row, List.length_append, length_row h i hi k (by omega), length_newest D h (i + k) (by omega)]
    omega
theorem row_four (D : Dv) (i : Nat) : D.row i 4 = D.four i := by
  simp [Dv.row, Dv.four]
set_option maxHeartbeats 1000000 in
theorem rfour_dead (i : Nat) (hf : RFileAt w q p fr n failed) (hD : RefAt w p fp D) (hd : D.dead = true) (hi : i ≤ 1099511627776) :
    Calls Try.prog 34 #[.pointer (some ⟨q, 0, none⟩), .int .i64 (i : Int)] w fun e w' => e = .returned (.tuple #[.string (strOf []), .int .i64 50]) ∧ w' = w := by
  have k0 := hf.c0
  have HRD := hide (rread_dead p (i : Int) w fp D hD hd)
  clear hD hf
  go_enter Try.func34, Try.ntmps34
  go_wp2
  go_loopw [7] (fun j wr => j = .int .i64 0 ∧ wr = w) (fun j _ => 4 - (intOf j).toNat)
  case atStart => exact ⟨rfl, rfl⟩
  case round =>
    obtain ⟨rfl, rfl⟩ := hrel
    go_wp2_with (first | (go_at_call 33; refine HRD.out.mono ?_; rintro e w4 ⟨rfl, hw⟩; have hw := hw.symm; subst hw))
    go_ret2
    exact ⟨rfl, rfl⟩
set_option maxHeartbeats 1000000 in
theorem rfour_ok (i : Nat) (hf : RFileAt w q p fr n failed) (hD : RefAt w p fp D) (hwf : D.wf) (hq : q ∉ fp) (hd : D.dead = false) (hW : D.W.length ≤ 900000) (hi : i + 4 ≤ D.L.length) :
    Calls Try.prog 34 #[.pointer (some ⟨q, 0, none⟩), .int .i64 (i : Int)] w fun e w' => e = .returned (.tuple #[.string (strOf (D.four i)), .int .i64 0]) ∧ RefAt w' p fp (D.more 4) ∧ Off fp w w' := by
  have hmax := hwf.max
  have HF := hide hf
  have HMW : Hid (∀ k, (D.more k).W.length ≤ 900000) := fun k => by rw [more_W]; exact hW
  have HLR := hide (length_row hwf i hi)
  have HLN := hide (fun k (hk : k < 4) => length_newest D hwf (i + k) (by omega))
  clear hwf hW hf
  go_enter Try.func34, Try.ntmps34
  go_wp2
  go_loopw [7, 6] (fun j sv wr => ∃ k : Nat, k ≤ 4 ∧ j = .int .i64 k ∧ sv = .string (strOf (D.row i k)) ∧ RefAt wr p fp (D.more k) ∧ Off fp w wr) (fun j _ _ => 5 - (intOf j).toNat)
  case atStart => exact ⟨0, by omega, rfl, rfl, hD, Off.refl _ _⟩
  case round =>
    clear hD
    obtain ⟨k, hk, rfl, rfl, hD, hO⟩ := hrel
    have k0 := (HF.out.off hO hq).c0
    have HO := hide hO
    clear hO
    by_cases hlt : k < 4
    · have HRD := hide (rread_ok p (i + k) wr fp (D.more k) hD (by rw [more_dead]; exact hd) (by rw [more_L]; omega) (by have := HMW.out k; omega))
      rw [more_newest] at HRD
      have hw1 : IntKind.i64.wrap ((i : Int) + (k : Int)) = (i : Int) + (k : Int) := by rw [IntKind.wrap_i64]; omega
      rw [show ((i + k : Nat) : Int) = (i : Int) + (k : Int) by omega] at HRD
      have hap := strOf_append (D.row i k) (D.newest (i + k))
      have hrow : D.row i k ++ D.newest (i + k) = D.row i (k + 1) := rfl
      rw [hrow] at hap
      have HAP := hide hap
      have hsz1 : (strOf (D.row i k)).size = 128 * k := by rw [size_strOf, HLR.out k hk]
      have hsz2 : (strOf (D.newest (i + k))).size = 128 := by rw [size_strOf, HLN.out k hlt]
      clear hD hap hrow
      go_wp2_with (first | (go_at_call 33; refine HRD.out.mono ?_; rintro e w4 ⟨rfl, hD4, hO4⟩))
      go_roundw
      case rel => exact ⟨k + 1, by omega, by go_num, by rw [← HAP.out], hD4, HO.out.trans hO4 (fun x hx => .inl hx)⟩
      case measure => simp [intOf]; omega
    · have hk4 : k = 4 := by omega
      subst hk4
      go_wp2
      go_ret2
      rw [row_four]
      exact ⟨rfl, hD, HO.out⟩
end
end Go.Proofs.Ytkdlggobbkedmaa
