/- A device with a fuse: what k calls make of it. -/
import Derived.Test.YtohhcgcifceklaaAwake
namespace Go.Proofs.Ytohhcgcifceklaa
open Go.RowKit
set_option linter.unusedVariables false
set_option linter.unusedSimpArgs false

/-- The last three bits of whatever int. -/
theorem and7 (x : Int) : bits .and .i64 x 7 = x % 8 := by
  have h7 : (BitVec.ofInt 64 7).toNat = 2 ^ 3 - 1 := by decide
  have hx : (BitVec.ofInt 64 x).toNat = (x % 18446744073709551616).toNat := by simp
  have : bits .and .i64 x 7 = IntKind.i64.wrap (((BitVec.ofInt 64 x).toNat &&& (BitVec.ofInt 64 7).toNat : Nat) : Int) := by
    simp only [bits, BitVec.toNat_and]
    rfl
  rw [this, h7, Nat.and_two_pow_sub_one_eq_mod, hx, IntKind.wrap_i64]
  omega

/-- Behind k calls of a device of eight sectors that was told 'fuse'. -/
structure FuseInv (fuse : Int) (k : Nat) (D : Dv) : Prop where
  eight : D.L.length = 8
  few : D.W.length ≤ k
  dead : D.dead = decide (0 ≤ fuse ∧ fuse < k)
  left : D.dead = false → D.fuse = if fuse < 0 then fuse else fuse - k
def okAt (fuse : Int) (k : Nat) : Bool := decide (fuse < 0 ∨ (k : Int) < fuse)

theorem burnt_fuse {fuse : Int} {k : Nat} {D : Dv} (h : FuseInv fuse k D) (hd : D.dead = false) (hok : okAt fuse k = true) : D.burnt.fuse = if fuse < 0 then fuse else fuse - (k + 1 : Nat) := by
  have hl := h.left hd
  simp [okAt] at hok
  simp only [Dv.burnt]
  by_cases h0 : fuse < 0
  · rw [if_pos h0] at hl
    rw [if_pos h0, hl, if_neg (by omega)]
  · rw [if_neg h0] at hl
    rw [if_neg h0, hl, if_pos (by omega)]
    omega
theorem fuse_zero {fuse : Int} {k : Nat} {D : Dv} (h : FuseInv fuse k D) (hd : D.dead = false) : (D.fuse = 0 ↔ okAt fuse k = false) := by
  have hl := h.left hd
  have hdd := h.dead
  rw [hd] at hdd
  have hdd : ¬ (0 ≤ fuse ∧ fuse < k) := by simpa using hdd.symm
  simp only [okAt, decide_eq_false_iff_not]
  by_cases h0 : fuse < 0
  · rw [if_pos h0] at hl
    omega
  · rw [if_neg h0] at hl
    omega
theorem dead_not {fuse : Int} {k : Nat} {D : Dv} (h : FuseInv fuse k D) (hd : D.dead = true) : okAt fuse k = false := by
  have hdd := h.dead
  rw [hd] at hdd
  have hdd : 0 ≤ fuse ∧ fuse < k := by simpa using hdd.symm
  simp only [okAt, decide_eq_false_iff_not]
  omega
theorem dead_next {fuse : Int} {k : Nat} (h : okAt fuse k = false) : decide (0 ≤ fuse ∧ fuse < ((k + 1 : Nat) : Int)) = true := by
  simp [okAt] at h
  simp
  omega
theorem live_next {fuse : Int} {k : Nat} (h : okAt fuse k = true) : decide (0 ≤ fuse ∧ fuse < ((k + 1 : Nat) : Int)) = false := by
  simp [okAt] at h
  simp
  omega

theorem inv_sync {fuse : Int} {k : Nat} {D : Dv} (h : FuseInv fuse k D) :
    D.sync.1 = (if okAt fuse k = true then 0 else 50) ∧ D.sync.2.dead = !okAt fuse k ∧ FuseInv fuse (k + 1) D.sync.2 := by
  unfold Dv.sync
  by_cases hd : D.dead = true
  · have hn := dead_not h hd
    simp only [hd, if_true, hn]
    refine ⟨rfl, rfl, h.eight, by have := h.few; omega, ?_, fun h2 => by simp [hd] at h2⟩
    rw [hd, dead_next hn]
  · have hd' : D.dead = false := by simpa using hd
    rw [if_neg hd]
    by_cases hf : D.fuse = 0
    · have hn := (fuse_zero h hd').1 hf
      rw [if_pos hf, hn]
      exact ⟨rfl, rfl, h.eight, by have := h.few; show D.W.length ≤ _; omega, (dead_next hn).symm, fun h2 => by simp at h2⟩
    · have hy : okAt fuse k = true := by
        cases hx : okAt fuse k with
        | true => rfl
        | false => exact absurd ((fuse_zero h hd').2 hx) hf
      rw [if_neg hf, hy]
      refine ⟨rfl, hd', ?_, by simp [Dv.synced], ?_, fun _ => burnt_fuse h hd' hy⟩
      · show (laidOver D.L D.W).length = 8
        rw [length_laidOver]; exact h.eight
      · rw [live_next hy]; exact hd'
theorem inv_write {fuse : Int} {k : Nat} {D : Dv} (h : FuseInv fuse k D) (i : Int) (bs : List UInt8) (h0 : 0 ≤ i) (h8 : i < 8) (hb : bs.length = 128) :
    (D.write i bs).1 = (if okAt fuse k = true then 0 else 50) ∧ (D.write i bs).2.dead = !okAt fuse k ∧ FuseInv fuse (k + 1) (D.write i bs).2 := by
  unfold Dv.write
  have hn8 : ¬ ((i < 0 ∨ (D.L.length : Int) ≤ i) ∨ bs.length ≠ 128) := by have := h.eight; omega
  by_cases hd : D.dead = true
  · have hn := dead_not h hd
    simp only [hd, if_true, hn]
    refine ⟨rfl, rfl, h.eight, by have := h.few; omega, ?_, fun h2 => by simp [hd] at h2⟩
    rw [hd, dead_next hn]
  · have hd' : D.dead = false := by simpa using hd
    rw [if_neg hd, if_neg hn8]
    by_cases hf : D.fuse = 0
    · have hn := (fuse_zero h hd').1 hf
      rw [if_pos hf, hn]
      exact ⟨rfl, rfl, h.eight, by have := h.few; show D.W.length ≤ _; omega, (dead_next hn).symm, fun h2 => by simp at h2⟩
    · have hy : okAt fuse k = true := by
        cases hx : okAt fuse k with
        | true => rfl
        | false => exact absurd ((fuse_zero h hd').2 hx) hf
      rw [if_neg hf, hy]
      refine ⟨rfl, hd', h.eight, ?_, ?_, fun _ => burnt_fuse h hd' hy⟩
      · show (D.W ++ [(i.toNat, bs)]).length ≤ k + 1
        have := h.few
        simp; omega
      · rw [live_next hy]; exact hd'
/-- Read(0). -/
theorem read_zero (D : Dv) (h8 : D.L.length = 8) : (D.read 0).2.1 = (if D.dead = true then 50 else 0) ∧ (D.read 0).2.2.dead = D.dead ∧ (D.read 0).2.2.W = D.W ∧ (D.read 0).2.2.L = D.L ∧ (D.read 0).2.2.fuse = D.fuse := by
  unfold Dv.read
  by_cases hd : D.dead = true
  · simp [hd]
  · rw [if_neg hd, if_neg (by omega)]
    simp [hd]
theorem inv_read {fuse : Int} {k : Nat} {D : Dv} (h : FuseInv fuse k D) : FuseInv fuse k (D.read 0).2.2 := by
  obtain ⟨_, h2, h3, h4, h5⟩ := read_zero D h.eight
  exact ⟨by rw [h4]; exact h.eight, by rw [h3]; exact h.few, by rw [h2]; exact h.dead, fun hd => by rw [h5]; exact h.left (by rw [← h2]; exact hd)⟩
theorem inv_crash (D : Dv) (ks : List Bool) (h : D.L.length = 8) : FuseInv (-1) 0 (D.crashed ks) :=
  ⟨by show (laidOver _ _).length = 8; rw [length_laidOver]; exact h, by simp [Dv.crashed], by simp [Dv.crashed], fun _ => by simp [Dv.crashed]⟩
theorem ok_minus (k : Nat) : okAt (-1) k = true := by simp [okAt]
theorem minus_live {k : Nat} {D : Dv} (h : FuseInv (-1) k D) : D.dead = false := by rw [h.dead]; simp
theorem notin_fp {w : World} {p : Nat} {fp : List Nat} {D : Dv} (h : DevAt w p fp D) : w.heap.size ∉ fp := fun hm => by
  obtain ⟨_, _, _, hx⟩ := h
  have := hx.lim _ hm
  omega
end Go.Proofs.Ytohhcgcifceklaa
