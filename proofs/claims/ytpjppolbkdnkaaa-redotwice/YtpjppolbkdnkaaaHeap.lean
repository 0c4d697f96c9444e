/- container/heap. -/
import Derived.Test.YtpjppolbkdnkaaaLsns
namespace Go.Proofs.Ytpjppolbkdnkaaa
open Go.RowKit
set_option linter.unusedVariables false
set_option linter.unusedSimpArgs false

set_option maxHeartbeats 1000000 in
theorem up_zero (h : Value) (w : World) : Calls Try.prog 74 #[h, .int .i64 0] w fun e w' => e = .returned (.tuple #[]) ∧ Below w.heap.size w w' := by
  go_enter Try.func74, Try.ntmps74
  go_wp2
  go_loopw [1, 4] (fun a b wr => a = .int .i64 0 ∧ Below w.heap.size w wr) (fun _ _ _ => 0)
  case atStart => exact ⟨rfl, Below.refl _ _⟩
  case round =>
    obtain ⟨rfl, hb⟩ := hrel
    go_wp2
    go_end0
    exact ⟨rfl, hb⟩
theorem mPush (a : Addr) (w : World) : (method 279 108 (.pointer (some a)) "Push").run Try.prog w = .ok (118, .pointer (some a)) w := by kernel_rfl
theorem mPop (a : Addr) (w : World) : (method 279 108 (.pointer (some a)) "Pop").run Try.prog w = .ok (117, .pointer (some a)) w := by kernel_rfl
theorem mVal {P : Program} (name : String) (f fuel : Nat) (t e : TypeId) (a : Addr) (w : World) (v : Value) (hm : (P.info? t).map (fun i => (i.methods.find? (·.name == name)).map (fun m => (m.path, m.func))) = some (some (#[], some (f, false))))
    (hu : (underlying t).run P w = .ok (.pointer e) w) (he : (loadVar e a).run P w = .ok v w) : (method (fuel + 1) t (.pointer (some a)) name).run P w = .ok (f, v) w := by
  cases hi : P.info? t with
  | none => rw [hi] at hm; cases hm
  | some i =>
    rw [hi] at hm
    simp only [Option.map_some] at hm
    injection hm with hm
    cases hf : i.methods.find? (·.name == name) with
    | none => rw [hf] at hm; cases hm
    | some m =>
      rw [hf] at hm
      simp only [Option.map_some] at hm
      injection hm with hm
      have h1 : m.path = #[] := congrArg Prod.fst hm
      have h2 : m.func = some (f, false) := congrArg Prod.snd hm
      have hti : (typeInfo t).run P w = .ok i w := by simp [typeInfo, hi]
      have hn : ∀ s, (Builtin.ssaWrapNilChk_ #[t] t #[.pointer (some a), strVal "", strVal s]).run P w = .ok (.pointer (some a)) w := fun s => rfl
      unfold method
      simp [Sem.run_bind, hti, Result.andThen, hf, h1, h2, follow, receiverAt, hu, Place.get, hn, asAddr, he]
theorem run_load70 (R : Nat) (w : World) (v : Value) (h : w.cell? ⟨R, 7, none⟩ = some v) : (loadVar 70 ⟨R, 7, none⟩).run Try.prog w = .ok v w := by
  have := run_loadAny w R 7 70 v Try.isAgg70 h
  simpa [Instr.loadAt, Instr.sureAddr] using this
theorem mLen (R : Nat) (w : World) (v : Value) (h : w.cell? ⟨R, 7, none⟩ = some v) : (method 279 108 (.pointer (some ⟨R, 7, none⟩)) "Len").run Try.prog w = .ok (114, v) w := mVal "Len" 114 278 108 70 _ w v (by kernel_rfl) (by kernel_rfl) (run_load70 R w v h)
theorem mLess (R : Nat) (w : World) (v : Value) (h : w.cell? ⟨R, 7, none⟩ = some v) : (method 279 108 (.pointer (some ⟨R, 7, none⟩)) "Less").run Try.prog w = .ok (115, v) w := mVal "Less" 115 278 108 70 _ w v (by kernel_rfl) (by kernel_rfl) (run_load70 R w v h)
theorem mSwap (R : Nat) (w : World) (v : Value) (h : w.cell? ⟨R, 7, none⟩ = some v) : (method 279 108 (.pointer (some ⟨R, 7, none⟩)) "Swap").run Try.prog w = .ok (116, v) w := mVal "Swap" 116 278 108 70 _ w v (by kernel_rfl) (by kernel_rfl) (run_load70 R w v h)
end Go.Proofs.Ytpjppolbkdnkaaa
