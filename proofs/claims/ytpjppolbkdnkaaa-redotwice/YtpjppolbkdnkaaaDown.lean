/- heap.down where there is nothing below. -/
import Derived.Test.YtpjppolbkdnkaaaRising
namespace Go.Proofs.Ytpjppolbkdnkaaa
open Go.RowKit
set_option linter.unusedVariables false
set_option linter.unusedSimpArgs false

set_option maxHeartbeats 1000000 in
set_option maxRecDepth 100000 in
theorem down_one (h : Value) (n : Int) (hn : n ≤ 1) (w : World) : Calls Try.prog 79 #[h, .int .i64 0, .int .i64 n] w fun e w' => e = .returned (.bool false) ∧ Below w.heap.size w w' := by
  have hd : decide ((1 : Int) ≥ n) = true := by simpa using hn
  go_enter Try.func79, Try.ntmps79
  go_wp2
  go_loopw [7] (fun a wr => a = .int .i64 0 ∧ Below w.heap.size w wr) (fun _ _ => 0)
  case atStart => exact ⟨rfl, Below.refl _ _⟩
  case round =>
    obtain ⟨rfl, hb⟩ := hrel
    go_wp2
    go_ret
    exact ⟨rfl, hb⟩
set_option maxHeartbeats 1000000 in
set_option maxRecDepth 100000 in
/-- heap.Fix where there is one element. -/
theorem fix_one (R : Nat) (a : Option Addr) (c : Nat) (w : World) (h7 : w.cell? ⟨R, 7, none⟩ = some (.slice a 1 c)) : Calls Try.prog 61 #[.iface 108 (.pointer (some ⟨R, 7, none⟩)), .int .i64 0] w fun e w' => e = .returned (.tuple #[]) ∧ Below w.heap.size w w' := by
  have hml := mLen R w _ h7
  have HDN := hide (fun W => down_one (.iface 108 (.pointer (some ⟨R, 7, none⟩))) 1 (by omega) W)
  have HUP := hide (fun W => up_zero (.iface 108 (.pointer (some ⟨R, 7, none⟩))) W)
  go_enter Try.func61, Try.ntmps61
  go_wp2_with (first
    | (go_at_call 114; refine (len_los a 1 c w).mono ?_; rintro e w' ⟨rfl, hw⟩; have hw := hw.symm; subst hw)
    | (go_at_call 79; refine (HDN.out _).mono ?_; rintro e w2 ⟨rfl, hb2⟩; have HB2 := hide hb2; clear hb2)
    | (go_at_call 74; refine (HUP.out _).mono ?_; rintro e w3 ⟨rfl, hb3⟩; have HB3 := hide hb3; clear hb3))
  go_end0
  exact ⟨rfl, HB2.out.trans (HB3.out.mono HB2.out.size)⟩
end Go.Proofs.Ytpjppolbkdnkaaa
