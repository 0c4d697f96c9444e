/- The document: whether a column has an index. -/
import Derived.Test.YtplpchaceiogaaaDoorChk
namespace Go.Proofs.YtplpchaceiogaaaDoor
open Go.RowKit
set_option linter.unusedVariables false
set_option linter.unusedSimpArgs false
set_option maxRecDepth 100000

set_option maxHeartbeats 4000000 in
theorem rindex45 {w : World} {T : Tb} {p : Pl} (h : TbAt w T p) (hf : T.Few) (c : Nat) (hc : c < T.cols.length) :
    Calls Tryd.prog 45 #[.agg #[.string (strOf T.nm), .slice p.ca T.cols.length p.cc, .slice p.ia T.idx.length p.ic, .int .i64 T.head, .slice p.ra T.roots.length p.rc], .int .i64 (c : Int)] w fun e w' => e = .returned (.bool (hasAt T c)) ∧ Below w.heap.size w w' := by
  have hN := hf.cols
  have hM := hf.idx
  obtain ⟨ca, cc, ia, ic, ra, rc⟩ := p
  obtain ⟨gb, ob, hca, hCl0⟩ := h.cols.get c hc
  simp only at hca
  subst hca
  simp only
  obtain ⟨W0, hW0⟩ : ∃ W0, w.alloc (.cells #[.string (strOf T.nm), .slice (some ⟨gb, ob, none⟩) T.cols.length cc, .slice ia T.idx.length ic, .int .i64 T.head, .slice ra T.roots.length rc] 29) = W0 := ⟨_, rfl⟩
  have hb0 : Below w.heap.size w W0 := by rw [← hW0]; exact (Below.refl _ _).alloc (Nat.le_refl _) _
  have hx0 : TBox W0 w.heap.size T ⟨some ⟨gb, ob, none⟩, cc, ia, ic, ra, rc⟩ := by rw [← hW0]; exact heap_alloc_new _ _
  have HB0 := hide hb0
  have a1 := hx0.c1
  have a2 := hx0.c2
  have hCl := hCl0.belowW hb0
  have c3 := hCl.c3
  have HIG : Hid (∀ i, i < T.idx.length → ∃ g o, ia = some ⟨g, o, none⟩ ∧ IxAt W0 g (o + i * 3) (T.idx.getD i Ix.zero)) := fun i hi => (show IxsAt W0 _ _ from Row.belowW h.idx hb0).get i hi
  have HTR : Hid (∀ k, k < T.idx.length → (T.idx.getD k Ix.zero).col = (c : Int) → hasAt T c = true) := fun k hk he => by
    unfold hasAt
    have : T.idx.any (fun x => x.col == (c : Int)) = true := List.any_eq_true.2 ⟨T.idx.getD k Ix.zero, by simp [hk], beq_iff_eq.2 he⟩
    rw [this, Bool.or_true]
  have HTN : Hid (∀ k, k < T.idx.length → (T.idx.take k).any (fun x => x.col == (c : Int)) = false → (T.idx.getD k Ix.zero).col ≠ (c : Int) → (T.idx.take (k + 1)).any (fun x => x.col == (c : Int)) = false) := fun k hk h1 h2 => by
    rw [any_take hk, h1, beq_eq_false_iff_ne.2 h2]
    rfl
  have HTE : Hid ((T.idx.take T.idx.length).any (fun x => x.col == (c : Int)) = false → hasAt T c = (T.cols.getD c Cl.zero).un) := fun h1 => by
    rw [List.take_length] at h1
    unfold hasAt
    rw [h1, Bool.or_false]
  simp only at a1 a2
  clear h hf hx0 hb0 hCl hCl0
  go_enter Tryd.func45, Tryd.ntmps45
  go_upto_region 1 with fail
  try rw [hW0]
  clear hW0
  generalize hq : w.heap.size = q at *
  have HQ := hide hq
  clear hq
  obtain ⟨z, hz⟩ : ∃ z, hasAt T c = z := ⟨_, rfl⟩
  have HZ := hide hz
  generalize hm : T.idx.length = m at *
  have HMM := hide hm
  clear hz hm
  generalize (T.cols.getD c Cl.zero).un = cu at *
  go_wp2
  go_loop [5] (fun i => ∃ k : Nat, k ≤ m ∧ i = .int .i64 (k : Int) ∧ (T.idx.take k).any (fun x => x.col == (c : Int)) = false) (fun i => m - (intOf i).toNat)
  case atStart => exact ⟨0, by omega, rfl, by simp⟩
  case round =>
    obtain ⟨k, hk, rfl, ha⟩ := hrel
    have HA := hide ha
    clear ha
    by_cases hlt : k < m
    · obtain ⟨g, o, hia, hX⟩ := HIG.out k hlt
      have k1 := hX.c1
      have hgb := World.block_lt_of_cell? _ _ k1
      have HTk := hide (HTR.out k hlt)
      have HNk := hide (HTN.out k hlt HA.out)
      subst hia
      generalize (T.idx.getD k Ix.zero).col = xc at *
      by_cases he : xc = (c : Int)
      · have HR := hide (HTk.out he)
        have heb : (xc == (c : Int)) = true := beq_iff_eq.2 he
        clear he hX
        go_wp2
        go_ret
        rw [HR.out]
        exact ⟨rfl, by rw [HQ.out]; exact HB0.out⟩
      · have HR := hide (HNk.out he)
        have heb : (xc == (c : Int)) = false := beq_eq_false_iff_ne.2 he
        clear he hX
        go_wp2
        go_round
        case rel => exact ⟨k + 1, by omega, by go_num, HR.out⟩
        case measure => simp [intOf]; omega
    · have hkm : k = m := by omega
      subst hkm
      have HR : Hid (hasAt T c = cu) := HTE.out HA.out
      go_wp2
      go_ret
      rw [HR.out]
      exact ⟨rfl, by rw [HQ.out]; exact HB0.out⟩
end Go.Proofs.YtplpchaceiogaaaDoor
