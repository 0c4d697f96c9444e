/- What the small methods of the device do to the world: Fuse, Pending, Dead, Size, Calls, has, burn. -/
import Derived.Test.YtifoafiidplpiaaRows
import Derived.WalkKit
import Derived.WalkSpells
import Derived.WalkLawsBesides
namespace Go.Proofs.Ytifoafiidplpiaa
open Go.RowKit
set_option linter.unusedVariables false
set_option linter.unusedSimpArgs false

set_option maxHeartbeats 400000 in
theorem size_any (p : Nat) (w : World) (ao : Option Addr) (n c : Nat) (h1 : w.cell? ⟨p, 0, none⟩ = some (.slice ao n c)) :
    Calls Try.prog 27 #[.pointer (some ⟨p, 0, none⟩)] w fun e w' => e = .returned (.int .i64 n) ∧ w' = w := by
  go_enter Try.func27, Try.ntmps27
  go_wp2
  go_ret
  exact ⟨rfl, rfl⟩



set_option maxHeartbeats 400000 in
theorem has_yes (p : Nat) (i : Int) (w : World) (ao : Option Addr) (n c : Nat) (h0 : w.cell? ⟨p, 0, none⟩ = some (.slice ao n c)) (hi : 0 ≤ i) (hn : i < n) :
    Calls Try.prog 53 #[.pointer (some ⟨p, 0, none⟩), .int .i64 i] w fun e w' => e = .returned (.bool true) ∧ w' = w := by
  go_enter Try.func53, Try.ntmps53
  go_wp2
  go_ret
  exact ⟨rfl, rfl⟩

set_option maxHeartbeats 400000 in
theorem has_no (p : Nat) (i : Int) (w : World) (ao : Option Addr) (n c : Nat) (h0 : w.cell? ⟨p, 0, none⟩ = some (.slice ao n c)) (hi : i < 0 ∨ (n : Int) ≤ i) :
    Calls Try.prog 53 #[.pointer (some ⟨p, 0, none⟩), .int .i64 i] w fun e w' => e = .returned (.bool false) ∧ w' = w := by
  by_cases h : 0 ≤ i
  · have hn : (n : Int) ≤ i := by omega
    have hd : decide (i < (n : Int)) = false := by simpa using hn
    clear hi
    go_enter Try.func53, Try.ntmps53
    go_wp2
    go_ret
    exact ⟨rfl, rfl⟩
  · clear hi
    go_enter Try.func53, Try.ntmps53
    go_wp2
    go_ret
    exact ⟨rfl, rfl⟩

set_option maxHeartbeats 400000 in
theorem burn_dies (p : Nat) (w : World) (u : Value) (h2 : w.cell? ⟨p, 2, none⟩ = some (.int .i64 0)) (h3 : w.cell? ⟨p, 3, none⟩ = some u) (f3 : w.frozen? ⟨p, 3, none⟩ = false) :
    Calls Try.prog 74 #[.pointer (some ⟨p, 0, none⟩)] w fun e w' => e = .returned (.bool false) ∧ w' = w.setCell ⟨p, 3, none⟩ (.bool true) := by
  go_enter Try.func74, Try.ntmps74
  go_wp2
  go_ret
  exact ⟨rfl, rfl⟩

set_option maxHeartbeats 400000 in
theorem burn_less (p : Nat) (w : World) (k : Int) (hk : 0 < k) (hk' : k ≤ 9223372036854775807) (h2 : w.cell? ⟨p, 2, none⟩ = some (.int .i64 k)) (f2 : w.frozen? ⟨p, 2, none⟩ = false) :
    Calls Try.prog 74 #[.pointer (some ⟨p, 0, none⟩)] w fun e w' => e = .returned (.bool true) ∧ w' = w.setCell ⟨p, 2, none⟩ (.int .i64 (k - 1)) := by
  have hz : (k == 0) = false := beq_eq_false_iff_ne.2 (by omega)
  go_enter Try.func74, Try.ntmps74
  go_wp2
  go_ret
  exact ⟨rfl, rfl⟩

set_option maxHeartbeats 400000 in
theorem burn_none (p : Nat) (w : World) (k : Int) (hk : k < 0) (h2 : w.cell? ⟨p, 2, none⟩ = some (.int .i64 k)) :
    Calls Try.prog 74 #[.pointer (some ⟨p, 0, none⟩)] w fun e w' => e = .returned (.bool true) ∧ w' = w := by
  have hz : (k == 0) = false := beq_eq_false_iff_ne.2 (by omega)
  go_enter Try.func74, Try.ntmps74
  go_wp2
  go_ret
  exact ⟨rfl, rfl⟩

end Go.Proofs.Ytifoafiidplpiaa
