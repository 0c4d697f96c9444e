/- unlike: has each transaction its own ID, rising? -/
import Derived.Test.YtpjppolbkdnkaaaRising
import Derived.Test.YtpjppolbkdnkaaaAnalyze
namespace Go.Proofs.Ytpjppolbkdnkaaa
open Go.RowKit
set_option linter.unusedVariables false
set_option linter.unusedSimpArgs false

set_option maxHeartbeats 2000000 in
set_option maxRecDepth 100000 in
theorem unlike_any (w : World) (a : Option Addr) (c : Nat) (T : List Tx) (hT : TxsAt w a T) (hl1 : T.length ≤ 9223372036854775807) :
    Calls Try.prog 27 #[.slice a T.length c] w fun e w' => ∃ b, e = .returned (.bool b) ∧ Below w.heap.size w w' := by
  have HL := hide hT
  obtain ⟨n, hn⟩ : ∃ n, T.length = n := ⟨_, rfl⟩
  have HN := hide hn
  rw [hn] at hl1 ⊢
  clear hn hT
  go_enter Try.func27, Try.ntmps27
  go_wp2
  go_loopw [3] (fun i wr => ∃ k : Nat, i = .int .i64 ((k + 1 : Nat) : Int) ∧ k ≤ n ∧ Below w.heap.size w wr) (fun i _ => n + 1 - (iv i).toNat)
  case atStart => exact ⟨0, rfl, by omega, Below.refl _ _⟩
  case round =>
    obtain ⟨k, rfl, hk, hb⟩ := hrel
    have HB := hide hb
    by_cases hlt : k + 1 < n
    · obtain ⟨x, hx⟩ : ∃ x, T[k + 1]? = some x := ⟨_, List.getElem?_eq_getElem (by rw [HN.out]; exact hlt)⟩
      obtain ⟨b, o, hab, hbl, hrg⟩ := HL.out (k + 1) x hx
      have d0 : wr.cell? ⟨b, o + (k + 1) * 3, none⟩ = some (.int .i64 x.id) := (hb.cell (p := ⟨b, o + (k + 1) * 3, none⟩) hbl).trans (hrg 0 _ rfl)
      obtain ⟨y, hy⟩ : ∃ y, T[k]? = some y := ⟨_, List.getElem?_eq_getElem (by rw [HN.out]; omega)⟩
      obtain ⟨b2, o2, hab2, hbl2, hrg2⟩ := HL.out k y hy
      rw [hab] at hab2
      injection hab2 with hab2
      injection hab2 with q1 q2
      subst q1; subst q2
      have d1 : wr.cell? ⟨b, o + k * 3, none⟩ = some (.int .i64 y.id) := (hb.cell (p := ⟨b, o + k * 3, none⟩) hbl2).trans (hrg2 0 _ rfl)
      have hpi : ((k + 1 : Nat) : Int) - 1 = (k : Int) := by omega
      clear hrg hrg2 hx hy hb
      rw [hab]
      by_cases h2 : x.id ≤ y.id
      · have hd2 : decide (x.id ≤ y.id) = true := decide_eq_true h2
        go_wp2
        go_quiet (fail)
        go_wp2
        go_ret
        exact ⟨false, rfl, HB.out.trans (below_drewN _ _ _)⟩
      · have hd2 : decide (x.id ≤ y.id) = false := decide_eq_false h2
        go_wp2
        go_quiet (fail)
        go_wp2
        go_roundw
        case rel => exact ⟨k + 1, by go_num, by omega, HB.out.trans (below_drewN _ _ _)⟩
        case measure => simp [iv]; omega
    · go_wp2
      go_ret
      exact ⟨_, rfl, HB.out⟩
end Go.Proofs.Ytpjppolbkdnkaaa
