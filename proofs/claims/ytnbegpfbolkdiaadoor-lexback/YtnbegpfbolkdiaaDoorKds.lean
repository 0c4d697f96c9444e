/- The document's kinds of bytes. -/
import Derived.Test.YtnbegpfbolkdiaaDoorKind
namespace Go.Proofs.YtnbegpfbolkdiaaDoor
set_option maxRecDepth 100000
open Go.RowKit
set_option linter.unusedVariables false
set_option linter.unusedSimpArgs false

def isW (c : UInt8) : Bool := c.toNat == 32 || c.toNat == 9 || c.toNat == 10 || c.toNat == 13
theorem kd_all : ∀ c : UInt8, (isL c = true ↔ kdB c = 4) ∧ (isD c = true ↔ kdB c = 5) ∧ (isW c = true ↔ kdB c = 2 ∨ kdB c = 3) ∧ (c = 39 ↔ kdB c = 6) ∧ (c = 45 ↔ kdB c = 7) ∧ (c = 10 ↔ kdB c = 3) := by
  have h : ∀ i : Fin 256, (isL (UInt8.ofNat i.val) = true ↔ kdB (UInt8.ofNat i.val) = 4) ∧ (isD (UInt8.ofNat i.val) = true ↔ kdB (UInt8.ofNat i.val) = 5) ∧ (isW (UInt8.ofNat i.val) = true ↔ kdB (UInt8.ofNat i.val) = 2 ∨ kdB (UInt8.ofNat i.val) = 3) ∧
    (UInt8.ofNat i.val = 39 ↔ kdB (UInt8.ofNat i.val) = 6) ∧ (UInt8.ofNat i.val = 45 ↔ kdB (UInt8.ofNat i.val) = 7) ∧ (UInt8.ofNat i.val = 10 ↔ kdB (UInt8.ofNat i.val) = 3) := by decide +kernel
  intro c
  have := h ⟨c.toNat, c.toNat_lt⟩
  simpa using this
theorem letter_any (c : UInt8) (w : World) : Calls Tryd.prog 18 #[.int .u8 (c.toNat : Int)] w fun e w' => e = .returned (.bool (isL c)) ∧ w' = w := by
  have HB : Hid (∀ b : Bool, ((b = true ↔ (65 ≤ (c.toNat : Int) ∧ (c.toNat : Int) ≤ 90) ∨ (97 ≤ (c.toNat : Int) ∧ (c.toNat : Int) ≤ 122) ∨ (c.toNat : Int) = 95)) → b = isL c) := fun b hb => by
    rw [Bool.eq_iff_iff, hb]
    simp only [isL, Bool.or_eq_true, Bool.and_eq_true, decide_eq_true_eq, beq_iff_eq]
    omega
  have h256 := c.toNat_lt
  obtain ⟨x, hx⟩ : ∃ x : Int, (c.toNat : Int) = x := ⟨_, rfl⟩
  rw [hx] at HB ⊢
  have h0 : 0 ≤ x := by omega
  have h1 : x < 256 := by omega
  clear hx h256
  obtain ⟨b, hb⟩ : ∃ b, isL c = b := ⟨_, rfl⟩
  rw [hb] at HB ⊢
  clear hb
  go_enter Tryd.func18, Tryd.ntmps18
  go_wp2
  all_goals go_ret
  all_goals refine ⟨congrArg (fun b => Ending.returned (Value.bool b)) (HB.out _ ?_), rfl⟩
  all_goals simp [*]
  all_goals omega
theorem digit_any (c : UInt8) (w : World) : Calls Tryd.prog 20 #[.int .u8 (c.toNat : Int)] w fun e w' => e = .returned (.bool (isD c)) ∧ w' = w := by
  have HB : Hid (∀ b : Bool, ((b = true ↔ (48 ≤ (c.toNat : Int) ∧ (c.toNat : Int) ≤ 57))) → b = isD c) := fun b hb => by
    rw [Bool.eq_iff_iff, hb]
    simp only [isD, Bool.or_eq_true, Bool.and_eq_true, decide_eq_true_eq, beq_iff_eq]
    omega
  have h256 := c.toNat_lt
  obtain ⟨x, hx⟩ : ∃ x : Int, (c.toNat : Int) = x := ⟨_, rfl⟩
  rw [hx] at HB ⊢
  have h0 : 0 ≤ x := by omega
  have h1 : x < 256 := by omega
  clear hx h256
  obtain ⟨b, hb⟩ : ∃ b, isD c = b := ⟨_, rfl⟩
  rw [hb] at HB ⊢
  clear hb
  go_enter Tryd.func20, Tryd.ntmps20
  go_wp2
  all_goals go_ret
  all_goals refine ⟨congrArg (fun b => Ending.returned (Value.bool b)) (HB.out _ ?_), rfl⟩
  all_goals simp [*]
  all_goals omega
theorem white_any (c : UInt8) (w : World) : Calls Tryd.prog 30 #[.int .u8 (c.toNat : Int)] w fun e w' => e = .returned (.bool (isW c)) ∧ w' = w := by
  have HB : Hid (∀ b : Bool, ((b = true ↔ (c.toNat : Int) = 32 ∨ (c.toNat : Int) = 9 ∨ (c.toNat : Int) = 10 ∨ (c.toNat : Int) = 13)) → b = isW c) := fun b hb => by
    rw [Bool.eq_iff_iff, hb]
    simp only [isW, Bool.or_eq_true, Bool.and_eq_true, decide_eq_true_eq, beq_iff_eq]
    omega
  have h256 := c.toNat_lt
  obtain ⟨x, hx⟩ : ∃ x : Int, (c.toNat : Int) = x := ⟨_, rfl⟩
  rw [hx] at HB ⊢
  have h0 : 0 ≤ x := by omega
  have h1 : x < 256 := by omega
  clear hx h256
  obtain ⟨b, hb⟩ : ∃ b, isW c = b := ⟨_, rfl⟩
  rw [hb] at HB ⊢
  clear hb
  go_enter Tryd.func30, Tryd.ntmps30
  go_wp2
  all_goals go_ret
  all_goals refine ⟨congrArg (fun b => Ending.returned (Value.bool b)) (HB.out _ ?_), rfl⟩
  all_goals simp [*]
  all_goals omega
end Go.Proofs.YtnbegpfbolkdiaaDoor
