/- The document's file does what the file does: the two as data. -/
import Derived.Test.YtkdlggobbkedmaaFPage
namespace Go.Proofs.Ytkdlggobbkedmaa
open Go.RowKit
set_option linter.unusedVariables false
set_option linter.unusedSimpArgs false

/-- All numbers below 0 are one: no fuse. -/
def Dv.norm (D : Dv) : Dv := { D with fuse := max D.fuse (-1) }
theorem norm_zero (D : Dv) : D.norm.fuse = 0 ↔ D.fuse = 0 := by simp only [Dv.norm]; omega
theorem norm_burnt (D : Dv) (h : D.fuse ≠ 0) : D.norm.burnt = D.burnt.norm := by
  unfold Dv.norm Dv.burnt
  simp only
  by_cases h0 : 0 < D.fuse
  · have h1 : max D.fuse (-1) = D.fuse := by omega
    have h2 : max (D.fuse - 1) (-1) = D.fuse - 1 := by omega
    rw [h1, if_pos h0, h2]
  · have h1 : ¬ 0 < max D.fuse (-1) := by omega
    rw [if_neg h1, if_neg h0]
theorem norm_write (D : Dv) (i : Int) (bs : List UInt8) : D.norm.write i bs = ((D.write i bs).1, (D.write i bs).2.norm) := by
  unfold Dv.write
  have hd : D.norm.dead = D.dead := rfl
  have hl : D.norm.L = D.L := rfl
  rw [hd, hl]
  by_cases h1 : D.dead = true
  · simp [h1]
  · rw [if_neg h1, if_neg h1]
    by_cases h2 : (i < 0 ∨ (D.L.length : Int) ≤ i) ∨ bs.length ≠ 128
    · rw [if_pos h2, if_pos h2]
    · rw [if_neg h2, if_neg h2]
      by_cases h3 : D.fuse = 0
      · rw [if_pos h3, if_pos ((norm_zero D).2 h3)]; rfl
      · rw [if_neg h3, if_neg (fun h => h3 ((norm_zero D).1 h))]
        have := norm_burnt D h3
        unfold Dv.wrote
        rw [this]
        rfl
theorem norm_sync (D : Dv) : D.norm.sync = (D.sync.1, D.sync.2.norm) := by
  unfold Dv.sync
  have hd : D.norm.dead = D.dead := rfl
  rw [hd]
  by_cases h1 : D.dead = true
  · simp [h1]
  · rw [if_neg h1, if_neg h1]
    by_cases h3 : D.fuse = 0
    · rw [if_pos h3, if_pos ((norm_zero D).2 h3)]; rfl
    · rw [if_neg h3, if_neg (fun h => h3 ((norm_zero D).1 h))]
      have := norm_burnt D h3
      unfold Dv.synced
      rw [this]
      rfl
theorem norm_read (D : Dv) (i : Int) : D.norm.read i = ((D.read i).1, (D.read i).2.1, (D.read i).2.2.norm) := by
  unfold Dv.read
  have hd : D.norm.dead = D.dead := rfl
  have hl : D.norm.L = D.L := rfl
  rw [hd, hl]
  by_cases h1 : D.dead = true
  · simp [h1]
  · rw [if_neg h1, if_neg h1]
    by_cases h2 : i < 0 ∨ (D.L.length : Int) ≤ i
    · rw [if_pos h2, if_pos h2]
    · rw [if_neg h2, if_neg h2]; rfl
theorem norm_crash (D : Dv) (ks : List Bool) : D.norm.crashed ks = (D.crashed ks).norm := by
  unfold Dv.crashed Dv.norm
  simp
theorem norm_fresh (n : Nat) : (Dv.fresh n).norm = Dv.fresh n := by
  unfold Dv.norm Dv.fresh
  simp
theorem norm_fuse (D : Dv) (k : Int) : ({ D with fuse := k } : Dv).norm = { D.norm with fuse := max k (-1) } := rfl
theorem norm_max (D : Dv) (h : D.wf) : D.norm.fuse ≤ 9223372036854775807 := by
  have := h.hi
  show max D.fuse (-1) ≤ _
  omega
theorem norm_newest (D : Dv) (i : Nat) : D.norm.newest i = D.newest i := rfl
theorem norm_four (D : Dv) (i : Nat) : D.norm.four i = D.four i := rfl
theorem norm_more (D : Dv) : ∀ k, D.norm.more k = (D.more k).norm
  | 0 => rfl
  | k + 1 => by
    show ({ D.norm.more k with calls := wrap64 ((D.norm.more k).calls + 1) } : Dv) = ({ D.more k with calls := wrap64 ((D.more k).calls + 1) } : Dv).norm
    rw [norm_more D k]
    rfl
theorem norm_lay : ∀ (ss : List (List UInt8)) (D : Dv) (i : Nat), D.norm.lay i ss = ((D.lay i ss).1, (D.lay i ss).2.norm)
  | [], D, i => by
    rw [Dv.lay, Dv.lay]
    exact norm_sync D
  | s :: r, D, i => by
    rw [Dv.lay, Dv.lay, norm_write]
    by_cases h : (D.write (i : Nat) s).1 ≠ 0
    · rw [if_pos h, if_pos (show ((D.write (i : Nat) s).1, (D.write (i : Nat) s).2.norm).1 ≠ 0 from h)]
    · rw [if_neg h, if_neg (show ¬ ((D.write (i : Nat) s).1, (D.write (i : Nat) s).2.norm).1 ≠ 0 from h)]
      exact norm_lay r _ _
def normP (x : Int × Dv) : Int × Dv := (x.1, x.2.norm)
theorem norm_onOk (x : Int × Dv) (f g : Dv → Int × Dv) (h : ∀ E : Dv, g E.norm = normP (f E)) : onOk (normP x) g = normP (onOk x f) := by
  unfold onOk
  by_cases hx : x.1 ≠ 0
  · rw [if_pos hx, if_pos (show (normP x).1 ≠ 0 from hx)]
  · rw [if_neg hx, if_neg (show ¬ (normP x).1 ≠ 0 from hx)]
    exact h _
theorem norm_carP (D : Dv) (fr i : Nat) (b : List UInt8) : D.norm.carP fr i b = normP (D.carP fr i b) := by
  unfold Dv.carP
  rw [norm_lay]
  exact norm_onOk _ _ _ (fun E => norm_lay _ E _)
theorem norm_carH (D : Dv) (fr i : Nat) (b : List UInt8) : D.norm.carH fr i b = normP (D.carH fr i b) := by
  unfold Dv.carH
  rw [norm_lay]
  exact norm_onOk _ _ _ (fun E => norm_carP E _ _ _)
theorem norm_carJ (D : Dv) (fr i : Nat) (b : List UInt8) : D.norm.carJ fr i b = normP (D.carJ fr i b) := by
  unfold Dv.carJ
  rw [norm_lay]
  exact norm_onOk _ _ _ (fun E => norm_carH E _ _ _)
theorem norm_mend (D : Dv) (fr n : Nat) : D.norm.mend fr n = normP (D.mend fr n) := by
  unfold Dv.mend
  have h1 : D.norm.dead = D.dead := rfl
  have h2 : D.norm.named fr = D.named fr := rfl
  have h3 : D.norm.four (fr + 1) = D.four (fr + 1) := rfl
  rw [h1, h2, h3, norm_more, norm_more, norm_carP]
  by_cases hd : D.dead = true
  · rw [if_pos hd, if_pos hd]; rfl
  · rw [if_neg hd, if_neg hd]
    by_cases hv : D.named fr < 1 ∨ n < D.named fr
    · rw [if_pos hv, if_pos hv]; rfl
    · rw [if_neg hv, if_neg hv]
/-! ### What stays well formed -/
theorem wf_norm {D : Dv} (h : D.wf) : D.norm.wf := ⟨h.pos, h.max, h.sec, h.ent, by show -9223372036854775808 ≤ max D.fuse (-1); omega, by have := h.hi; show max D.fuse (-1) ≤ _; omega⟩
theorem wf_write {D : Dv} (h : D.wf) (i : Int) (bs : List UInt8) : (D.write i bs).2.wf := by
  unfold Dv.write
  split
  · exact h
  · split
    · exact h
    · rename_i ha
      split
      · exact ⟨h.pos, h.max, h.sec, h.ent, h.lo, h.hi⟩
      · exact wf_wrote h _ _ (by omega) (by omega)
theorem wf_sync {D : Dv} (h : D.wf) : D.sync.2.wf := by
  unfold Dv.sync
  split
  · exact h
  · split
    · exact ⟨h.pos, h.max, h.sec, h.ent, h.lo, h.hi⟩
    · exact wf_synced h
theorem wf_lay : ∀ (ss : List (List UInt8)) (D : Dv) (i : Nat), D.wf → (D.lay i ss).2.wf
  | [], D, i, h => wf_sync h
  | s :: r, D, i, h => by
    rw [Dv.lay]
    split
    · exact wf_write h _ _
    · exact wf_lay r _ _ (wf_write h _ _)
end Go.Proofs.Ytkdlggobbkedmaa
