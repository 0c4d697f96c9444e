/- The document's device does what the device does: the two as data. -/
import Derived.Test.YtohhcgcifceklaaRefCopy
namespace Go.Proofs.Ytohhcgcifceklaa
open Go.RowKit
set_option linter.unusedVariables false
set_option linter.unusedSimpArgs false

/-- All numbers below 0 are one: no fuse. -/
def Dv.norm (D : Dv) : Dv := { D with fuse := max D.fuse (-1) }
theorem norm_zero (D : Dv) : D.norm.fuse = 0 ↔ D.fuse = 0 := by simp only [Dv.norm]; omega
theorem norm_burnt (D : Dv) (h : D.fuse ≠ 0) : D.norm.burnt = D.burnt.norm := by
  unfold Dv.norm Dv.burnt
  simp only
  by_cases h0 : 0 < D.fuse
  · have h1 : max D.fuse (-1) = D.fuse := by omega
    have h2 : max (D.fuse - 1) (-1) = D.fuse - 1 := by omega
    rw [h1, if_pos h0, h2]
  · have h1 : ¬ 0 < max D.fuse (-1) := by omega
    rw [if_neg h1, if_neg h0]
theorem norm_write (D : Dv) (i : Int) (bs : List UInt8) : D.norm.write i bs = ((D.write i bs).1, (D.write i bs).2.norm) := by
  unfold Dv.write
  have hd : D.norm.dead = D.dead := rfl
  have hl : D.norm.L = D.L := rfl
  rw [hd, hl]
  by_cases h1 : D.dead = true
  · simp [h1]
  · rw [if_neg h1, if_neg h1]
    by_cases h2 : (i < 0 ∨ (D.L.length : Int) ≤ i) ∨ bs.length ≠ 128
    · rw [if_pos h2, if_pos h2]
    · rw [if_neg h2, if_neg h2]
      by_cases h3 : D.fuse = 0
      · rw [if_pos h3, if_pos ((norm_zero D).2 h3)]; rfl
      · rw [if_neg h3, if_neg (fun h => h3 ((norm_zero D).1 h))]
        have := norm_burnt D h3
        unfold Dv.wrote
        rw [this]
        rfl
theorem norm_sync (D : Dv) : D.norm.sync = (D.sync.1, D.sync.2.norm) := by
  unfold Dv.sync
  have hd : D.norm.dead = D.dead := rfl
  rw [hd]
  by_cases h1 : D.dead = true
  · simp [h1]
  · rw [if_neg h1, if_neg h1]
    by_cases h3 : D.fuse = 0
    · rw [if_pos h3, if_pos ((norm_zero D).2 h3)]; rfl
    · rw [if_neg h3, if_neg (fun h => h3 ((norm_zero D).1 h))]
      have := norm_burnt D h3
      unfold Dv.synced
      rw [this]
      rfl
theorem norm_read (D : Dv) (i : Int) : D.norm.read i = ((D.read i).1, (D.read i).2.1, (D.read i).2.2.norm) := by
  unfold Dv.read
  have hd : D.norm.dead = D.dead := rfl
  have hl : D.norm.L = D.L := rfl
  rw [hd, hl]
  by_cases h1 : D.dead = true
  · simp [h1]
  · rw [if_neg h1, if_neg h1]
    by_cases h2 : i < 0 ∨ (D.L.length : Int) ≤ i
    · rw [if_pos h2, if_pos h2]
    · rw [if_neg h2, if_neg h2]; rfl
theorem norm_crash (D : Dv) (ks : List Bool) : D.norm.crashed ks = (D.crashed ks).norm := by
  unfold Dv.crashed Dv.norm
  simp
theorem norm_fresh (n : Nat) : (Dv.fresh n).norm = Dv.fresh n := by
  unfold Dv.norm Dv.fresh
  simp
theorem norm_fuse (D : Dv) (k : Int) : ({ D with fuse := k } : Dv).norm = { D.norm with fuse := max k (-1) } := rfl
theorem norm_max (D : Dv) (h : D.wf) : D.norm.fuse ≤ 9223372036854775807 := by
  have := h.hi
  show max D.fuse (-1) ≤ _
  omega
/-- Both go on with as many sectors, and with at most one write more. -/
structure Same (D D' : Dv) : Prop where
  len : D'.L.length = D.L.length
  few : D'.W.length ≤ D.W.length + 1
theorem same_write (D : Dv) (i : Int) (bs : List UInt8) : Same D (D.write i bs).2 := by
  unfold Dv.write
  split
  · exact ⟨rfl, by show D.W.length ≤ _; omega⟩
  · split
    · exact ⟨rfl, by show D.W.length ≤ _; omega⟩
    · split
      · exact ⟨rfl, by show D.W.length ≤ _; omega⟩
      · exact ⟨rfl, by show (D.W ++ [(i.toNat, bs)]).length ≤ _; simp⟩
theorem same_sync (D : Dv) : Same D D.sync.2 := by
  unfold Dv.sync
  split
  · exact ⟨rfl, by show D.W.length ≤ _; omega⟩
  · split
    · exact ⟨rfl, by show D.W.length ≤ _; omega⟩
    · exact ⟨length_laidOver _ _, by simp [Dv.synced]⟩
theorem same_read (D : Dv) (i : Int) : Same D (D.read i).2.2 := by
  unfold Dv.read
  split
  · exact ⟨rfl, by show D.W.length ≤ _; omega⟩
  · split
    · exact ⟨rfl, by show D.W.length ≤ _; omega⟩
    · exact ⟨rfl, by show D.W.length ≤ _; omega⟩
theorem same_crash (D : Dv) (ks : List Bool) : Same D (D.crashed ks) := ⟨length_laidOver _ _, by simp [Dv.crashed]⟩
theorem dev_wf {w : World} {p : Nat} {fp : List Nat} {D : Dv} (h : DevAt w p fp D) : D.wf := by
  obtain ⟨_, _, _, hx⟩ := h
  exact hx.wf
end Go.Proofs.Ytohhcgcifceklaa
