/- The document's Find. -/
import Derived.Test.YtjcobejaldfibaaFnd
namespace Go.Proofs.Ytjcobejaldfibaa
open Go.RowKit
set_option linter.unusedVariables false
set_option linter.unusedSimpArgs false

set_option maxHeartbeats 1000000 in
set_option maxRecDepth 100000 in
theorem rfind_any {w : World} {N : Nd} {vk vv vi : Value} (h : RdAt w N vk vv vi) (hf : Fits N) (K : List UInt8) :
    Calls Try.prog 22 #[.agg #[.bool N.leaf, vk, vv, vi, .int .i64 N.next], .string (strOf K)] w fun e w' => e = .returned (.tuple #[.int .i64 (plc N.keys K : Int), .bool (hasK N.keys K)]) ∧ Below w.heap.size w w' := by
  obtain ⟨ak, ck, rfl, _, _⟩ := h.keys.len
  obtain ⟨av, cv, rfl, _, _⟩ := h.vals.len
  obtain ⟨ai, ci, rfl, _, _⟩ := h.kids.len
  have hnk3 := hf.keys
  have HB : Hid (Below w.heap.size w (w.alloc (.cells #[.bool N.leaf, .slice ak N.keys.length ck, .slice av N.vals.length cv, .slice ai N.kids.length ci, .int .i64 N.next] 43))) := (Below.refl _ _).alloc (Nat.le_refl _) _
  have HX : Hid (Box 43 (w.alloc (.cells #[.bool N.leaf, .slice ak N.keys.length ck, .slice av N.vals.length cv, .slice ai N.kids.length ci, .int .i64 N.next] 43)) w.heap.size (.bool N.leaf) (.slice ak N.keys.length ck) (.slice av N.vals.length cv) (.slice ai N.kids.length ci) (.int .i64 N.next)) := Box.new _ _ _ _ _ _
  have HK := hide (h.keys.belowW HB.out)
  have HAT : Hid (∀ k, k < N.keys.length → (∀ j, j < k → blt (N.keys.getD j []) K = true) → blt (N.keys.getD k []) K = false → plc N.keys K = k ∧ hasK N.keys K = decide (N.keys.getD k [] = K)) := fun k h1 h2 h3 => plc_at h1 h2 h3
  have HEN : Hid ((∀ j, j < N.keys.length → blt (N.keys.getD j []) K = true) → plc N.keys K = N.keys.length ∧ hasK N.keys K = false) := plc_end
  have HCM : Hid (∀ Q, (blt Q K = true ∧ Op.bytesLess (strOf Q).toList (strOf K).toList = true) ∨ (blt Q K = false ∧ Op.bytesLess (strOf Q).toList (strOf K).toList = false)) := fun Q => by
    rw [strOf_toList', strOf_toList']
    cases e : blt Q K with
    | true => exact .inl ⟨rfl, e⟩
    | false => exact .inr ⟨rfl, e⟩
  have HEQ : Hid (∀ Q, ((strOf Q).toList == (strOf K).toList) = decide (Q = K)) := fun Q => by
    rw [strOf_toList', strOf_toList']
    by_cases e : Q = K
    · rw [decide_eq_true e, e]; simp
    · rw [decide_eq_false e]; simpa using e
  generalize plc N.keys K = pp at *
  generalize hasK N.keys K = hh at *
  clear h hf
  generalize strOf K = sk at *
  generalize hnk : N.keys.length = nk at *
  have HNK := hide hnk
  clear hnk
  generalize N.vals.length = nv at *
  generalize N.kids.length = ni at *
  generalize N.leaf = lf at *
  generalize N.next = x at *
  go_enter Try.func22, Try.ntmps22
  go_upto_region 1 with fail
  generalize (w.alloc (.cells #[.bool lf, .slice ak nk ck, .slice av nv cv, .slice ai ni ci, .int .i64 x] 43)) = W0 at *
  obtain ⟨k0, k1, k2, k3, k4, f0, f1, f2, f3, f4⟩ := HX.out.cells
  go_wp2
  go_loopw [6] (fun i wr => ∃ k : Nat, k ≤ nk ∧ i = .int .i64 (k : Int) ∧ wr = W0 ∧ Hid (∀ j, j < k → blt (N.keys.getD j []) K = true)) (fun i _ => nk - (intOf i).toNat)
  case atStart => exact ⟨0, by omega, rfl, rfl, fun j hj => by omega⟩
  case round =>
    obtain ⟨k, hk, rfl, rfl, HO⟩ := hrel
    by_cases hlt : k < nk
    · obtain ⟨g, o, hao, hc⟩ := HK.out.get k (by rw [HNK.out]; exact hlt)
      subst hao
      have hcm := HCM.out (N.keys.getD k [])
      have hq := HEQ.out (N.keys.getD k [])
      have HAK := hide (HAT.out k hlt HO.out)
      have HOS : Hid (blt (N.keys.getD k []) K = true → ∀ j, j < k + 1 → blt (N.keys.getD j []) K = true) := fun hb j hj => by
        by_cases e : j = k
        · rw [e]; exact hb
        · exact HO.out j (by omega)
      generalize blt (N.keys.getD k []) K = bb at *
      generalize decide (N.keys.getD k [] = K) = ee at *
      generalize N.keys.getD k [] = Q at *
      generalize strOf Q = sq at *
      have q1 : decide ((k : Int) < (nk : Int)) = true := decide_eq_true (by omega)
      rcases hcm with ⟨rfl, c1⟩ | ⟨rfl, c1⟩
      · clear hq
        go_wp2
        go_roundw
        case rel => exact ⟨k + 1, by omega, by go_num, trivial, HOS.out rfl⟩
        case measure => simp [intOf]; omega
      · obtain ⟨e1, e2⟩ := HAK.out rfl
        subst e1 e2
        cases hh with
        | true =>
          go_upto_region 4 with fail
          go_quiet (fail)
          go_wp2
          go_ret2
          exact ⟨rfl, HB.out.trans (below_drewN _ _ _)⟩
        | false =>
          go_upto_region 4 with fail
          go_quiet (fail)
          go_wp2
          go_ret2
          exact ⟨rfl, HB.out.trans (below_drewN _ _ _)⟩
    · have hkL : k = nk := by omega
      subst hkL
      obtain ⟨e1, e2⟩ := HEN.out HO.out
      subst e1 e2
      have q1 : decide ((pp : Int) < (pp : Int)) = false := decide_eq_false (by omega)
      go_upto_region 4 with fail
      go_quiet (fail)
      go_wp2
      go_ret2
      exact ⟨rfl, HB.out.trans (below_drewN _ _ _)⟩
end Go.Proofs.Ytjcobejaldfibaa
