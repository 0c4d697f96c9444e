/- 'awake' answers true: what the document fixes of a device of four sectors. -/
import Derived.Test.YtohhcgcifceklaaDev
namespace Go.Proofs.Ytohhcgcifceklaa
open Go.RowKit
set_option linter.unusedVariables false
set_option linter.unusedSimpArgs false

theorem secOf (a b : Int) : secCells (sec a b) = (sec a b).map bcell := rfl
def awakeA : Dv := Dv.wrote (Dv.fresh 4) 1 (sec 1 7)
theorem awake_write : (Dv.fresh 4).write 1 (sec 1 7) = (0, awakeA) := by
  unfold Dv.write
  rw [if_neg (by simp [Dv.fresh]), if_neg (by simp [Dv.fresh, length_sec]), if_neg (by simp [Dv.fresh])]
  rfl
def awakeB : Dv := ⟨List.replicate 4 zeros, [], -1, false, 1⟩
theorem awake_crash : awakeA.crashed [] = awakeB := by
  simp [Dv.crashed, awakeA, Dv.wrote, Dv.burnt, Dv.fresh, kept, laidOver, awakeB, wrap64]
theorem awake_read : awakeB.read 1 = (some zeros, 0, ⟨List.replicate 4 zeros, [], -1, false, 2⟩) := by
  unfold Dv.read
  rw [if_neg (by simp [awakeB]), if_neg (by simp [awakeB])]
  simp [awakeB, Dv.newest, wrap64]

set_option maxHeartbeats 400000 in
set_option maxRecDepth 100000 in
theorem awake_true (w : World) : Calls Try.prog 9 #[] w fun e w' => e = .returned (.bool true) ∧ Below w.heap.size w w' := by
  go_enter Try.func9, Try.ntmps9
  go_wp2_with fail
  refine (new_dev 4 w (by omega) (by omega)).mono ?_
  rintro e w1 ⟨rfl, hD1, hB1⟩
  obtain ⟨p, hp⟩ : ∃ p, w.heap.size + 1 = p := ⟨_, rfl⟩
  have hl : ∀ k ∈ [w.heap.size, p], w.heap.size ≤ k := by simp; omega
  rw [hp] at hD1 ⊢
  have hs1 : p < w1.heap.size := by obtain ⟨_, _, _, hx⟩ := hD1; exact hx.lt
  have HL := hide hl
  have HP := hide hp
  clear hp hl
  go_wp2_with fail
  refine (sector_dev 1 7 w1).mono ?_
  rintro e w2 ⟨rfl, hq2, hB2⟩
  have hD2 := hD1.below hB2
  have hqn : w1.heap.size ∉ [w.heap.size, p] := by have := HP.out; simp; omega
  go_wp2_with fail
  refine (write_sec p 1 w1.heap.size 128 1 7 5 (0, 0) w2 _ _ hD2 (by simp [Dv.fresh]) hq2 hqn).mono ?_
  rw [awake_write]
  rintro e w3 ⟨rfl, fp3, hD3, hO3, hF3⟩
  have hB3 : Below w.heap.size w w3 := (hB1.trans (hB2.mono hB1.size)).trans (hO3.below (Nat.le_trans hB1.size hB2.size) HL.out)
  clear hq2 hqn
  go_wp2_with fail
  refine (pending_dev p w3 fp3 _ hD3).mono ?_
  rintro e w4 ⟨rfl, hw4⟩
  have hw4 := hw4.symm
  subst hw4
  go_wp2_with fail
  refine (crash_none p w3 fp3 _ hD3 (by simp [awakeA, Dv.wrote, Dv.fresh])).mono ?_
  rw [awake_crash]
  rintro e w5 ⟨rfl, hD5, hO5⟩
  go_wp2_with fail
  refine (read_dev p 1 w5 fp3 _ hD5 (by simp [awakeB])).mono ?_
  rw [awake_read]
  rintro e w6 ⟨v, rfl, ⟨g, rfl, hg6, _, hc6⟩, hD6, hO6⟩
  have hx0 : w6.cell? ⟨g, 0, none⟩ = some (.int .u8 0) := by rw [cell_of_row _ _ _ _ _ _ hc6]; rfl
  have hn1 : ((awakeA.W.length : Nat) : Int) = 1 := by simp [awakeA, Dv.wrote, Dv.fresh]
  go_wp2_with fail
  refine (size_dev p w6 fp3 _ hD6).mono ?_
  rintro e w7 ⟨rfl, hw7⟩
  have hw7 := hw7.symm
  subst hw7
  rw [show (((List.replicate 4 zeros).length : Nat) : Int) = 4 by simp]
  go_wp2_with fail
  refine (calls_dev p w6 fp3 _ hD6).mono ?_
  rintro e w7 ⟨rfl, hw7⟩
  have hw7 := hw7.symm
  subst hw7
  go_wp2_with fail
  go_ret
  have hF : ∀ k ∈ fp3, w.heap.size ≤ k := fun k hk => by
    rcases hF3 k hk with h | h
    · exact HL.out k h
    · exact Nat.le_trans hB1.size (Nat.le_trans hB2.size h)
  exact ⟨rfl, (hB3.trans (hO5.below hB3.size hF)).trans (hO6.below (Nat.le_trans hB3.size hO5.size) hF)⟩
end Go.Proofs.Ytohhcgcifceklaa
