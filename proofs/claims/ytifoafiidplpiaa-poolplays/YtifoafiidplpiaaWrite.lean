/- What Write does: a dead device, a wrong call, a fuse that has burnt down, or a write that lies in the cache. -/
import Derived.Test.YtifoafiidplpiaaRead
import Derived.Deep.RegionHeldLaw
namespace Go.Proofs.Ytifoafiidplpiaa
open Go.RowKit
set_option linter.unusedVariables false
set_option linter.unusedSimpArgs false

set_option maxHeartbeats 400000 in
theorem write_dead (p : Nat) (i : Int) (ao : Option Addr) (n c : Nat) (w : World) (fp : List Nat) (D : Dv) (h : DevAt w p fp D) (hd : D.dead = true) :
    Calls Try.prog 67 #[.pointer (some ⟨p, 0, none⟩), .int .i64 i, .slice ao n c] w fun e w' => e = .returned (.int .i64 50) ∧ w' = w := by
  obtain ⟨lb, lcap, cv, h⟩ := h
  have k3 := h.c3
  rw [hd] at k3
  go_enter Try.func67, Try.ntmps67
  go_wp2
  go_ret
  exact ⟨rfl, rfl⟩

set_option maxHeartbeats 400000 in
theorem write_arg (p : Nat) (i : Int) (ao : Option Addr) (n c : Nat) (w : World) (fp : List Nat) (D : Dv) (h : DevAt w p fp D) (hd : D.dead = false) (hi : (i < 0 ∨ (D.L.length : Int) ≤ i) ∨ n ≠ 128) :
    Calls Try.prog 67 #[.pointer (some ⟨p, 0, none⟩), .int .i64 i, .slice ao n c] w fun e w' => e = .returned (.int .i64 1) ∧ w' = w := by
  obtain ⟨lb, lcap, cv, h⟩ := h
  have k3 := h.c3
  rw [hd] at k3
  by_cases hx : i < 0 ∨ (D.L.length : Int) ≤ i
  · have HN := hide (has_no p i w _ _ _ h.c0 hx)
    clear hx hi hd
    go_enter Try.func67, Try.ntmps67
    go_wp2_with (go_at_call 53; refine HN.out.mono ?_; rintro e w' ⟨rfl, hw⟩; have hw := hw.symm; subst hw)
    go_ret
    exact ⟨rfl, rfl⟩
  · have HN := hide (has_yes p i w _ _ _ h.c0 (by omega) (by omega))
    have hn : ((n : Int) != 128) = true := by rw [bne_iff_ne]; omega
    clear hx hi hd
    go_enter Try.func67, Try.ntmps67
    go_wp2_with (go_at_call 53; refine HN.out.mono ?_; rintro e w' ⟨rfl, hw⟩; have hw := hw.symm; subst hw)
    go_ret
    exact ⟨rfl, rfl⟩

set_option maxHeartbeats 400000 in
theorem write_burnt (p : Nat) (i : Nat) (ao : Option Addr) (c : Nat) (w : World) (fp : List Nat) (D : Dv) (h : DevAt w p fp D) (hd : D.dead = false) (hi : i < D.L.length) (hf : D.fuse = 0) :
    Calls Try.prog 67 #[.pointer (some ⟨p, 0, none⟩), .int .i64 i, .slice ao 128 c] w fun e w' => e = .returned (.int .i64 50) ∧ DevAt w' p fp { D with dead := true } ∧ Off fp w w' := by
  obtain ⟨lb, lcap, cv, h⟩ := h
  have k3 := h.c3
  rw [hd] at k3
  have k2 := h.c2
  rw [hf] at k2
  have hwf : Dv.wf { D with dead := true } := ⟨h.wf.pos, h.wf.max, h.wf.sec, h.wf.ent, h.wf.lo, h.wf.hi⟩
  have h1 := h.heads 3 (.bool true) { D with dead := true } rfl rfl hwf rfl
  have HN := hide (has_yes p i w _ _ _ h.c0 (by omega) (by omega))
  have HB := hide (burn_dies p w _ k2 h.c3 (h.fz 3))
  have hn : ((128 : Int) != 128) = false := rfl
  clear hd hf
  go_enter Try.func67, Try.ntmps67
  go_wp2_with (first | (go_at_call 53; refine HN.out.mono ?_; rintro e w' ⟨rfl, hw⟩; have hw := hw.symm; subst hw) | (go_at_call 74; refine HB.out.mono ?_; rintro e w' ⟨rfl, rfl⟩))
  go_ret
  exact ⟨rfl, ⟨lb, lcap, cv, h1⟩, (Off.refl fp w).setCell _ _ (.inl h.inP)⟩

/-- 'burn' where the fuse has not burnt down. -/
def Dv.burnt (D : Dv) : Dv := { D with fuse := if 0 < D.fuse then D.fuse - 1 else D.fuse }
theorem burn_ok (p : Nat) (w : World) (fp : List Nat) (D : Dv) (lb lcap : Nat) (cv : Value) (h : DevIs w p fp D lb lcap cv) (hf : D.fuse ≠ 0) :
    Calls Try.prog 74 #[.pointer (some ⟨p, 0, none⟩)] w fun e w' => e = .returned (.bool true) ∧ DevIs w' p fp D.burnt lb lcap cv ∧ Off [p] w w' := by
  by_cases h0 : 0 < D.fuse
  · have hwf : Dv.wf D.burnt := ⟨h.wf.pos, h.wf.max, h.wf.sec, h.wf.ent, by have := h.wf.lo; simp [Dv.burnt, h0]; omega, by have := h.wf.hi; simp [Dv.burnt, h0]; omega⟩
    refine (burn_less p w _ h0 h.wf.hi h.c2 (h.fz 2)).mono ?_
    rintro e w' ⟨rfl, rfl⟩
    exact ⟨rfl, h.heads 2 _ D.burnt rfl rfl hwf (by simp [Dv.burnt, h0]), (Off.refl _ w).setCell _ _ (.inl (by simp))⟩
  · refine (burn_none p w _ (by omega) h.c2).mono ?_
    rintro e w' ⟨rfl, rfl⟩
    have : D.burnt = D := by simp [Dv.burnt, h0]
    rw [this]
    exact ⟨rfl, h, Off.refl _ _⟩
end Go.Proofs.Ytifoafiidplpiaa
