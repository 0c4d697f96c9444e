/- Same: two lists of values. -/
import Derived.Test.YtplpchaceiogaaaDoorSplit
namespace Go.Proofs.YtplpchaceiogaaaDoor
set_option maxRecDepth 100000
open Go.RowKit
set_option linter.unusedVariables false
set_option linter.unusedSimpArgs false

set_option maxHeartbeats 2000000 in
theorem same_any {w : World} {u v : Value} {l : List Vl} (hu : VsAt w u l) (hv : VsAt w v l) :
    Calls Tryd.prog 17 #[u, v] w fun e w' => e = .returned (.bool true) ∧ ∃ m, w' = w.drewN m := by
  obtain ⟨ao, c, rfl, hc1, hc2⟩ := hu.len
  obtain ⟨ao', c', rfl, hc1', hc2'⟩ := hv.len
  simp only [maxLen] at hc2 hc2'
  have HU := hide hu
  have HV := hide hv
  clear hu hv
  generalize hL : l.length = L at *
  have HLE := hide hL
  clear hL
  go_enter Tryd.func17, Tryd.ntmps17
  go_wp2
  go_loopw [5] (fun i wr => ∃ k m : Nat, k ≤ L ∧ i = .int .i64 (k : Int) ∧ wr = w.drewN m) (fun i _ => L - (intOf i).toNat)
  case atStart => exact ⟨0, 0, by omega, rfl, rfl⟩
  case round =>
    obtain ⟨k, m, hk, rfl, rfl⟩ := hrel
    by_cases hlt : k < L
    · obtain ⟨g, o, hao, hC⟩ := HU.out.get k (by rw [HLE.out]; exact hlt)
      obtain ⟨g', o', hao', hC'⟩ := HV.out.get k (by rw [HLE.out]; exact hlt)
      subst hao hao'
      obtain ⟨k0, k1, k2, k3⟩ := hC
      obtain ⟨j0, j1, j2, j3⟩ := hC'
      generalize l.getD k Vl.zero = V at *
      have hn := fun w => run_neq23 w V V true (by simp)
      have he := fun w => eq23 w V V true (by simp)
      go_upto_region 6 with fail
      go_quiet (fail)
      go_wp2
      go_roundw
      case rel => exact ⟨k + 1, _, by omega, by go_num, rfl⟩
      case measure => simp [intOf]; omega
    · have hkL : k = L := by omega
      subst hkL
      go_wp2
      go_ret
      exact ⟨rfl, _, rfl⟩
end Go.Proofs.YtplpchaceiogaaaDoor
