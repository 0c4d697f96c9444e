/- A file in memory; 'lay' and 'fetch': sectors one behind the other. -/
import Derived.Test.YtifoafiidplpiaaFNum
import Derived.Deep.RegionHeldLaw
namespace Go.Proofs.Ytifoafiidplpiaa
open Go.RowKit
set_option linter.unusedVariables false
set_option linter.unusedSimpArgs false

theorem Try.info5' : ∃ i, Try.prog.info? 5 = some i ∧ i.zero = some (.int .u8 0) ∧ i.size = 1 ∧ i.bytes = 1 := by
  obtain ⟨i, hi, hz⟩ := Option.map_eq_some_iff.1 Try.info5
  simp only [Prod.mk.injEq] at hz
  exact ⟨i, hi, hz.1, hz.2.1, hz.2.2⟩
/-- Where a cut from l on of a slice with this address and room lies. -/
def cutAt (ao : Option Addr) (c l : Nat) : Option Addr := if c = l then ao else ao.map (·.add l)
theorem run_cut (w : World) (ao : Option Addr) (n c l h : Nat) (hl : l ≤ h) (hh : h ≤ c) :
    (Instr.sliceAt 37 (.slice ao n c) (some (.int .i64 (l : Int))) (some (.int .i64 (h : Int))) none).run Try.prog w = .ok (.slice (cutAt ao c l) (h - l) (c - l)) w := by
  have hu := Try.underlying37
  have hs : (Try.prog.info? 5).map (·.size) = some 1 := by kernel_rfl
  have h1 : (h : Int) ≤ (c : Int) := by omega
  have h2 : (l : Int) ≤ (h : Int) := by omega
  obtain ⟨i, hi, hz, hsz, hby⟩ := Try.info5'
  simp [Instr.sliceAt, Instr.slice, run_underlying hu, Instr.sliceBounds, Instr.sliceBound, asIntOf, h1, h2, sizeOf, typeInfo, hi, hsz, cutAt, Nat.mul_one]
  by_cases e : c = l
  · subst e; simp [hl, hh]
  · simp [e, hl, hh]
theorem run_cut_from (w : World) (ao : Option Addr) (n c l : Nat) (hl : l ≤ n) :
    (Instr.sliceAt 37 (.slice ao n c) (some (.int .i64 (l : Int))) none none).run Try.prog w = .ok (.slice (cutAt ao c l) (n - l) (c - l)) w := by
  have hu := Try.underlying37
  have h2 : (l : Int) ≤ (n : Int) := by omega
  obtain ⟨i, hi, hz, hsz, hby⟩ := Try.info5'
  simp [Instr.sliceAt, Instr.slice, run_underlying hu, Instr.sliceBounds, Instr.sliceBound, asIntOf, h2, sizeOf, typeInfo, hi, hsz, cutAt, Nat.mul_one]
  by_cases e : c = l
  · simp [e]; intro hx; omega
  · simp [e]; intro hx; omega

/-! ### As data -/
def secsOf : Nat → List UInt8 → List (List UInt8)
  | 0, _ => []
  | n + 1, b => b.take 128 :: secsOf n (b.drop 128)
/-- Sectors written from i on, up to the first error; then a sync. -/
def Dv.lay : Dv → Nat → List (List UInt8) → Int × Dv
  | D, _, [] => D.sync
  | D, i, s :: r => if (D.write (i : Nat) s).1 ≠ 0 then D.write (i : Nat) s else Dv.lay (D.write (i : Nat) s).2 (i + 1) r
/-- k calls more. -/
def Dv.more (D : Dv) : Nat → Dv
  | 0 => D
  | k + 1 => { D.more k with calls := wrap64 ((D.more k).calls + 1) }
def Dv.four (D : Dv) (i : Nat) : List UInt8 := D.newest i ++ (D.newest (i + 1) ++ (D.newest (i + 2) ++ D.newest (i + 3)))

theorem write_W (D : Dv) (i : Int) (bs : List UInt8) : (D.write i bs).2.W.length ≤ D.W.length + 1 := by
  unfold Dv.write
  split
  · simp
  · split
    · simp
    · split
      · simp
      · simp [Dv.wrote]
theorem write_L (D : Dv) (i : Int) (bs : List UInt8) : (D.write i bs).2.L = D.L := by
  unfold Dv.write
  split
  · rfl
  · split
    · rfl
    · split
      · rfl
      · rfl

/-! ### In memory -/
theorem Off.drewN {fp : List Nat} {a w : World} (h : Off fp a w) (m : Nat) : Off fp a (w.drewN m) := ⟨h.os, h.tape, h.output, h.size, h.block⟩
theorem Off.undrewN {fp : List Nat} {a w : World} {m : Nat} (h : Off fp (a.drewN m) w) : Off fp a w := ⟨h.os, h.tape, h.output, h.size, h.block⟩
theorem below_drewN (B : Nat) (w : World) (m : Nat) : Below B w (w.drewN m) := ⟨rfl, rfl, rfl, Nat.le_refl _, fun _ _ => rfl⟩
theorem DevAt.drewN {w : World} {p : Nat} {fp : List Nat} {D : Dv} (h : DevAt w p fp D) (m : Nat) : DevAt (w.drewN m) p fp D := h.below (below_drewN _ _ _)
theorem SrcAt.drewN {w : World} {g o : Nat} {bs : List UInt8} (h : SrcAt w g o bs) (m : Nat) : SrcAt (w.drewN m) g o bs := h
/-- A file at q: the device at p, from fr on, n pages. -/
def FileAt (w : World) (q p : Nat) (fr n : Nat) (failed : Bool) : Prop := w.heap[q]? = some (.cells #[.pointer (some ⟨p, 0, none⟩), .int .i64 (fr : Int), .int .i64 (n : Int), .bool failed] 73 (0, 0))
section
variable {w w' : World} {q p fr n : Nat} {failed : Bool}
theorem FileAt.c0 (h : FileAt w q p fr n failed) : w.cell? ⟨q, 0, none⟩ = some (.pointer (some ⟨p, 0, none⟩)) := by rw [cell_of_row w q 0 _ _ _ h]; rfl
theorem FileAt.c1 (h : FileAt w q p fr n failed) : w.cell? ⟨q, 1, none⟩ = some (.int .i64 (fr : Int)) := by rw [cell_of_row w q 1 _ _ _ h]; rfl
theorem FileAt.c2 (h : FileAt w q p fr n failed) : w.cell? ⟨q, 2, none⟩ = some (.int .i64 (n : Int)) := by rw [cell_of_row w q 2 _ _ _ h]; rfl
theorem FileAt.c3 (h : FileAt w q p fr n failed) : w.cell? ⟨q, 3, none⟩ = some (.bool failed) := by rw [cell_of_row w q 3 _ _ _ h]; rfl
theorem FileAt.fz (h : FileAt w q p fr n failed) (o : Nat) : w.frozen? ⟨q, o, none⟩ = false := frozen_of_row w q o _ _ h
theorem FileAt.lt (h : FileAt w q p fr n failed) : q < w.heap.size := (Array.getElem?_eq_some_iff.1 h).1
theorem FileAt.off {fp : List Nat} (h : FileAt w q p fr n failed) (ho : Off fp w w') (hq : q ∉ fp) : FileAt w' q p fr n failed := (ho.block q h.lt hq).trans h
theorem FileAt.below (h : FileAt w q p fr n failed) (hb : Below w.heap.size w w') : FileAt w' q p fr n failed := (hb.block q h.lt).trans h
end
theorem SrcAt.off {w w' : World} {g o : Nat} {bs : List UInt8} {fp : List Nat} (h : SrcAt w g o bs) (ho : Off fp w w') (hg : g ∉ fp) : SrcAt w' g o bs := h.of ho.size (ho.block g h.1 hg)
theorem SrcAt.cut {w : World} {g o : Nat} {bs : List UInt8} (h : SrcAt w g o bs) (l k : Nat) : SrcAt w g (o + l) ((bs.drop l).take k) := by
  refine ⟨h.1, fun j u hu => ?_⟩
  have e : secCells ((bs.drop l).take k) = ((secCells bs).drop l).take k := by simp [secCells]
  rw [e, List.getElem?_take] at hu
  split at hu
  · rw [List.getElem?_drop] at hu
    have := h.2 _ _ hu
    rw [Addr.add_mid] at this ⊢
    rw [Nat.add_assoc]
    exact this
  · simp at hu
theorem fresh_off {fp fq fp' : List Nat} {w wr : World} (hF : ∀ k ∈ fq, k ∈ fp ∨ w.heap.size ≤ k) (hO : Off fp w wr) (h : ∀ k ∈ fp', k ∈ fq ∨ wr.heap.size ≤ k) : ∀ k ∈ fp', k ∈ fp ∨ w.heap.size ≤ k := fun k hk => by
  rcases h k hk with h1 | h1
  · exact hF k h1
  · exact .inr (Nat.le_trans hO.size h1)
theorem fresh_not {fp fq : List Nat} {w : World} {q : Nat} (hq : q ∉ fp) (hl : q < w.heap.size) (hF : ∀ k ∈ fq, k ∈ fp ∨ w.heap.size ≤ k) : q ∉ fq := fun hm => by
  rcases hF q hm with h1 | h1
  · exact hq h1
  · omega

set_option maxHeartbeats 1000000 in
set_option maxRecDepth 100000 in
theorem lay_any {w : World} {q p fr n : Nat} {failed : Bool} {fp : List Nat} {D : Dv} (i g c m : Nat) (bs : List UInt8) (hl : bs.length = 128 * m) (hm : m ≤ 4) (hc : 128 * m ≤ c) (hf : FileAt w q p fr n failed) (hD : DevAt w p fp D) (hq : q ∉ fp)
    (hs : SrcAt w g 0 bs) (hg : g ∉ fp) (hW : D.W.length ≤ 900000) (hi : i ≤ 1099511627776) :
    Calls Try.prog 55 #[.pointer (some ⟨q, 0, none⟩), .int .i64 (i : Int), .slice (some ⟨g, 0, none⟩) (128 * m) c] w fun e w' => e = .returned (.int .i64 (D.lay i (secsOf m bs)).1) ∧
      ∃ fp', DevAt w' p fp' (D.lay i (secsOf m bs)).2 ∧ Off fp w w' ∧ ∀ k ∈ fp', k ∈ fp ∨ w.heap.size ≤ k := by
  obtain ⟨R, hR⟩ : ∃ R, D.lay i (secsOf m bs) = R := ⟨_, rfl⟩
  rw [hR]
  have HR := hide hR
  have HF := hide hf
  have HQ := hide hq
  have HS := hide hs
  have HG := hide hg
  have HL := hide hl
  clear hR hf hq hs hg hl
  have hquo : ((128 * m : Nat) : Int).tdiv 128 = (m : Int) := by rw [show ((128 * m : Nat) : Int) = 128 * (m : Int) by omega]; exact Int.mul_tdiv_cancel_left _ (by decide)
  go_enter Try.func55, Try.ntmps55
  go_wp2
  go_loopw [13] (fun j wr => ∃ (k : Nat) (fq : List Nat) (E : Dv), k ≤ m ∧ j = .int .i64 k ∧ DevAt wr p fq E ∧ Off fp w wr ∧ (∀ x ∈ fq, x ∈ fp ∨ w.heap.size ≤ x) ∧ E.W.length ≤ D.W.length + k ∧ R = E.lay (i + k) (secsOf (m - k) (bs.drop (128 * k)))) (fun j _ => m + 1 - (intOf j).toNat)
  case atStart => exact ⟨0, fp, D, by omega, rfl, hD, Off.refl _ _, fun k hk => .inl hk, by omega, by rw [← HR.out]; rfl⟩
  case round =>
    clear hD
    obtain ⟨k, fq, E, hk, rfl, hD, hO, hFr, hE, hR⟩ := hrel
    have HO := hide hO
    have HFr := hide hFr
    have HR2 := hide hR
    have hfa := HF.out.off hO HQ.out
    have k0 := hfa.c0
    clear hO hFr hR HR
    by_cases hlt : k < m
    · have hlc : ((bs.drop (128 * k)).take 128).length = 128 := by have := HL.out; simp; omega
      have hsrc := (HS.out.off HO.out HG.out).cut (128 * k) 128
      rw [Nat.zero_add] at hsrc
      have HWR := hide (fun d : Nat => write_dev p ((i + k : Nat) : Int) g (128 * k) (c - 128 * k) _ (wr.drewN d) fq E (hD.drewN d) (by omega) (hsrc.drewN d) (fresh_not HG.out HS.out.1 HFr.out))
      rw [hlc] at HWR
      have hst : secsOf (m - k) (bs.drop (128 * k)) = (bs.drop (128 * k)).take 128 :: secsOf (m - (k + 1)) (bs.drop (128 * (k + 1))) := by
        rw [show m - k = (m - (k + 1)) + 1 by omega, secsOf, List.drop_drop]
        rfl
      have HST := hide hst
      have hWW := write_W E ((i + k : Nat) : Int) ((bs.drop (128 * k)).take 128)
      obtain ⟨X, hX⟩ : ∃ X, E.write ((i + k : Nat) : Int) ((bs.drop (128 * k)).take 128) = X := ⟨_, rfl⟩
      rw [hX] at HWR hWW
      have HR3 : Hid (R = if X.1 ≠ 0 then X else X.2.lay (i + k + 1) (secsOf (m - (k + 1)) (bs.drop (128 * (k + 1))))) := by
        have := HR2.out
        rw [hst, Dv.lay, hX] at this
        exact this
      have HK0 := hide (fun (W : World) (ho : Off fq wr W) => (hfa.off ho (fresh_not HQ.out HF.out.lt HFr.out)).c0)
      clear HR2 hst hX hsrc hlc HST hD hfa
      obtain ⟨x, E2⟩ := X
      have hcut : ∀ u, (Instr.sliceAt 37 (.slice (some ⟨g, 0, none⟩) (128 * m) c) (some (.int .i64 ((k : Int) * 128))) (some (.int .i64 ((k : Int) * 128 + 128))) none).run Try.prog u = .ok (.slice (some ⟨g, 128 * k, none⟩) 128 (c - 128 * k)) u := fun u => by
        have := run_cut u (some ⟨g, 0, none⟩) (128 * m) c (128 * k) (128 * k + 128) (by omega) (by omega)
        rw [show ((128 * k : Nat) : Int) = (k : Int) * 128 by omega, show ((128 * k + 128 : Nat) : Int) = (k : Int) * 128 + 128 by omega, show 128 * k + 128 - 128 * k = 128 by omega] at this
        rw [this]
        unfold cutAt
        rw [if_neg (by omega)]
        simp [Addr.add_mid]
      have hw1 : IntKind.i64.wrap ((i : Int) + (k : Int)) = (i : Int) + (k : Int) := by rw [IntKind.wrap_i64]; omega
      have hw2 : IntKind.i64.wrap ((k : Int) * 128 + 128) = (k : Int) * 128 + 128 := by rw [IntKind.wrap_i64]; omega
      rw [show ((i + k : Nat) : Int) = (i : Int) + (k : Int) by omega] at HWR
      by_cases hx : x = 0
      · subst hx
        go_wp2
        go_region_held (fun w' => w'.cell? ⟨q, 0, none⟩ = some (.pointer (some ⟨p, 0, none⟩))) (simp [*])
          (first | (go_at_call 67; refine (HWR.out 1).mono ?_; rintro e w4 ⟨rfl, fp4, hD4, hO4, hF4⟩; have k04 := HK0.out w4 hO4.undrewN))
        go_wp2
        go_roundw
        case rel =>
          refine ⟨k + 1, fp4, E2, by omega, by go_num, hD4, HO.out.trans hO4.undrewN (fun x hx => HFr.out x hx), fresh_off HFr.out HO.out hF4, by omega, ?_⟩
          rw [HR3.out, if_neg (by simp)]
          rfl
        case measure => simp [intOf]; omega
      · have HR4 : Hid (R = (x, E2)) := by
          have := HR3.out
          rw [if_pos hx] at this
          exact this
        have hxb : (x != 0) = true := by simpa using hx
        go_wp2
        go_region_held (fun w' => w'.cell? ⟨q, 0, none⟩ = some (.pointer (some ⟨p, 0, none⟩))) (simp [*])
          (first | (go_at_call 67; refine (HWR.out 1).mono ?_; rintro e w4 ⟨rfl, fp4, hD4, hO4, hF4⟩; have k04 := HK0.out w4 hO4.undrewN))
        all_goals go_wp2
        all_goals go_ret
        all_goals
          rw [HR4.out]
          exact ⟨rfl, fp4, hD4, HO.out.trans hO4.undrewN (fun x hx => HFr.out x hx), fresh_off HFr.out HO.out hF4⟩
    · have hkm : k = m := by omega
      subst hkm
      have HSY := hide (sync_dev p wr fq E hD (by omega))
      have HR3 : Hid (R = E.sync) := by
        have := HR2.out
        rw [Nat.sub_self, secsOf, Dv.lay] at this
        exact this
      clear HR2 hD
      go_wp2_with (first | (go_at_call 68; refine HSY.out.mono ?_; rintro e w4 ⟨rfl, hD4, hO4⟩))
      go_ret
      rw [HR3.out]
      exact ⟨rfl, fq, hD4, HO.out.trans hO4 (fun i hi => HFr.out i hi), HFr.out⟩
end Go.Proofs.Ytifoafiidplpiaa
