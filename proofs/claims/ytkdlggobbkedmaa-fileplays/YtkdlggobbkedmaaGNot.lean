/- The law FilePlays where the size, the place or the number of pages is none. -/
import Derived.Test.YtkdlggobbkedmaaGIn
namespace Go.Proofs.Ytkdlggobbkedmaa
open Go.RowKit
set_option linter.unusedVariables false
set_option linter.unusedSimpArgs false

set_option maxHeartbeats 1000000 in
set_option maxRecDepth 100000 in
theorem plays_size (z f g : Int) (a : Option Addr) (len cap : Nat) (w : World) (h : z < 1 ∨ 60 < z) :
    Calls Try.prog 4 #[.int .i64 z, .int .i64 f, .int .i64 g, .slice a len cap] w fun e w' => e = .returned (.bool true) ∧ Below w.heap.size w w' := by
  have HAW := hide (awake_true w)
  by_cases h1 : z < 1
  · have d1 : decide (z < 1) = true := by simpa using h1
    go_enter Try.func4, Try.ntmps4
    go_wp2_with (first | (go_at_call 12; refine HAW.out.mono ?_; rintro e w' ⟨rfl, hb⟩))
    go_ret
    exact ⟨rfl, hb⟩
  · have d1 : decide (z < 1) = false := by simpa using h1
    have h2 : 60 < z := by omega
    have d2 : decide (60 < z) = true := by simpa using h2
    go_enter Try.func4, Try.ntmps4
    go_wp2_with (first | (go_at_call 12; refine HAW.out.mono ?_; rintro e w' ⟨rfl, hb⟩))
    go_ret
    exact ⟨rfl, hb⟩
set_option maxHeartbeats 1000000 in
set_option maxRecDepth 100000 in
theorem plays_place (N : Nat) (f g : Int) (a : Option Addr) (len cap : Nat) (w : World) (h1 : 1 ≤ N) (h2 : N ≤ 60) (hl : len ≤ 9223372036854775807) (hf1 : -9223372036854775808 ≤ f) (hf2 : f ≤ 9223372036854775807) (hx : ¬ (1 ≤ g ∧ 0 ≤ f ∧ f + 5 + 4 * g ≤ (N : Int))) :
    Calls Try.prog 4 #[.int .i64 (N : Int), .int .i64 f, .int .i64 g, .slice a len cap] w fun e w' => e = .returned (.bool true) ∧ Below w.heap.size w w' := by
  have d1 : decide ((N : Int) < 1) = false := by simp; omega
  have d2 : decide ((60 : Int) < (N : Int)) = false := by simp; omega
  have hfl : (Dv.fresh N).L.length = N := by simp [Dv.fresh]
  have HX := hide hx
  clear hx
  go_enter Try.func4, Try.ntmps4
  go_wp2_with fail
  refine (awake_true w).mono ?_
  rintro e w1 ⟨rfl, hb1⟩
  have HB1 := hide hb1
  clear hb1
  go_wp2_with fail
  refine (b_new N w1 h1 (by omega)).mono ?_
  rintro e w2 ⟨p, rfl, hD2⟩
  have HRN := hide (dd_rnew N hD2 h1 (by omega))
  clear hD2
  go_wp2_with fail
  refine HRN.out.mono ?_
  rintro e w3 ⟨r, rfl, hD3⟩
  have HOP := hide (pl_openArg f g hD3 hf1 hf2 (by rw [hfl]; exact HX.out))
  have HRO := hide (rl_openArg f g hD3 hf1 hf2 (by rw [hfl]; exact HX.out))
  have HB3 := hide (HB1.out.trans (hD3.below.mono HB1.out.size))
  clear HRN hD3
  go_wp2_with (first | (go_at_call 7; refine HOP.out.mono ?_; rintro e w' ⟨rfl, hw⟩; have hw := hw.symm; subst hw) | (go_at_call 14; refine HRO.out.mono ?_; rintro e w' ⟨rfl, hw⟩; have hw := hw.symm; subst hw))
  go_loopw [13, 17] (fun fv iv wx => fv = .pointer none ∧ iv = .int .i64 0 ∧ wx = w3) (fun _ _ _ => 0)
  case atStart => exact ⟨rfl, rfl, rfl⟩
  case round =>
    obtain ⟨rfl, rfl, rfl⟩ := hrel
    by_cases hl0 : 0 < len
    · go_wp2_with fail
      go_ret
      exact ⟨rfl, HB3.out⟩
    · go_wp2_with fail
      go_ret
      exact ⟨rfl, HB3.out⟩
end Go.Proofs.Ytkdlggobbkedmaa
