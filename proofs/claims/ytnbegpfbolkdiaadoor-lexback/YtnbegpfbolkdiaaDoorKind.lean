/- The kind of the byte at a place. -/
import Derived.Test.YtnbegpfbolkdiaaDoorSteps
import Derived.WalkKit
namespace Go.Proofs.YtnbegpfbolkdiaaDoor
set_option maxRecDepth 100000
open Go.RowKit
set_option linter.unusedVariables false
set_option linter.unusedSimpArgs false

def kdZ (x : Int) : Int :=
  if x = 32 then 2 else if x = 9 then 2 else if x = 13 then 2 else if x = 10 then 3 else if x = 39 then 6 else if x = 45 then 7
  else if x = 40 then 8 else if x = 41 then 8 else if x = 44 then 8 else if x = 46 then 8 else if x = 42 then 8 else if x = 43 then 8 else if x = 47 then 8 else if x = 37 then 8
  else if x = 61 then 8 else if x = 60 then 8 else if x = 62 then 8 else if x = 124 then 8 else if x = 59 then 8
  else if 48 ≤ x ∧ x ≤ 57 then 5 else if 97 ≤ x ∧ x ≤ 122 then 4 else if 65 ≤ x ∧ x ≤ 90 then 4 else if x = 95 then 4 else 0
theorem kdZ_eq : ∀ c : UInt8, kdZ (c.toNat : Int) = (kdB c : Int) := by
  have h : ∀ i : Fin 256, kdZ ((UInt8.ofNat i.val).toNat : Int) = (kdB (UInt8.ofNat i.val) : Int) := by decide +kernel
  intro c
  have := h ⟨c.toNat, c.toNat_lt⟩
  simpa using this

set_option maxHeartbeats 8000000 in
theorem kind_any (s : ByteArray) (i : Nat) (w : World) (hi : i ≤ 140737488355328) (hs : s.size ≤ 140737488355328) :
    Calls Tryd.prog 31 #[.string s, .int .i64 (i : Int)] w fun e w' => e = .returned (.int .i64 (kdAt s.data.toList i)) ∧ w' = w := by
  have hlen : s.data.toList.length = s.size := (Lib.size_eq s).symm
  by_cases hlt : i < s.size
  · obtain ⟨c, hc⟩ : ∃ c : UInt8, s[i] = c := ⟨_, rfl⟩
    have hk : (kdAt s.data.toList i : Int) = kdZ (c.toNat : Int) := by
      rw [kdAt_in (by omega), kdZ_eq]
      congr 2
    rw [hk]
    clear hk
    have hlt' : (i : Int) < (s.size : Int) := by omega
    have h256 := c.toNat_lt
    obtain ⟨x, hx⟩ : ∃ x : Int, (c.toNat : Int) = x := ⟨_, rfl⟩
    rw [hx]
    go_enter Tryd.func31, Tryd.ntmps31
    go_wp2
    all_goals go_ret
    all_goals (refine ⟨?_, rfl⟩; congr 2; symm; clear hc hx h256 hlt hlt' hlen hs hi; simp only [beq_iff_eq, bne_iff_ne, decide_eq_true_eq, Bool.not_eq_true, beq_eq_false_iff_ne, decide_eq_false_iff_not] at *; unfold kdZ)
    all_goals first
      | (simp [*]; done)
      | (refine congrArg _ ?_; (repeat' split) <;> omega)
      | (simp_all; refine congrArg _ ?_; (repeat' split) <;> omega)
  · rw [kdAt_over (by omega)]
    have hge : (s.size : Int) ≤ (i : Int) := by omega
    go_enter Tryd.func31, Tryd.ntmps31
    go_wp2
    go_ret
    exact ⟨rfl, rfl⟩
end Go.Proofs.YtnbegpfbolkdiaaDoor
