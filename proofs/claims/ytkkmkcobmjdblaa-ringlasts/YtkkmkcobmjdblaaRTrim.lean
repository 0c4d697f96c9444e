/- Cuts of a slice that is held; the laws of Trim and Read. -/
import Derived.Test.YtkkmkcobmjdblaaRApp
import Derived.Deep.RegionHeldLaw
namespace Go.Proofs.Ytkkmkcobmjdblaa
open Go.RowKit
set_option linter.unusedVariables false
set_option linter.unusedSimpArgs false

/-- Where a cut from l on of a slice with this address and room lies. -/
def cutAt (ao : Option Addr) (c l : Nat) : Option Addr := if c = l then ao else ao.map (·.add l)
theorem run_cut (w : World) (ao : Option Addr) (n c l h : Nat) (hl : l ≤ h) (hh : h ≤ c) :
    (Instr.sliceAt 27 (.slice ao n c) (some (.int .i64 (l : Int))) (some (.int .i64 (h : Int))) none).run Try.prog w = .ok (.slice (cutAt ao c l) (h - l) (c - l)) w := by
  have hu := Try.underlying27
  have hs : (Try.prog.info? 5).map (·.size) = some 1 := by kernel_rfl
  have h1 : (h : Int) ≤ (c : Int) := by omega
  have h2 : (l : Int) ≤ (h : Int) := by omega
  obtain ⟨i, hi, hz, hsz, hby⟩ := Try.info5'
  simp [Instr.sliceAt, Instr.slice, run_underlying hu, Instr.sliceBounds, Instr.sliceBound, asIntOf, h1, h2, sizeOf, typeInfo, hi, hsz, cutAt, Nat.mul_one]
  by_cases e : c = l
  · subst e; simp [hl, hh]
  · simp [e, hl, hh]
theorem run_cut_from (w : World) (ao : Option Addr) (n c l : Nat) (hl : l ≤ n) :
    (Instr.sliceAt 27 (.slice ao n c) (some (.int .i64 (l : Int))) none none).run Try.prog w = .ok (.slice (cutAt ao c l) (n - l) (c - l)) w := by
  have hu := Try.underlying27
  have h2 : (l : Int) ≤ (n : Int) := by omega
  obtain ⟨i, hi, hz, hsz, hby⟩ := Try.info5'
  simp [Instr.sliceAt, Instr.slice, run_underlying hu, Instr.sliceBounds, Instr.sliceBound, asIntOf, h2, sizeOf, typeInfo, hi, hsz, cutAt, Nat.mul_one]
  by_cases e : c = l
  · simp [e]; intro hx; omega
  · simp [e]; intro hx; omega
theorem cut_held {w : World} {ao : Option Addr} {c : Nat} {hs : List UInt8} (h : Held w (.slice ao hs.length c) hs) (l : Nat) (hl : l ≤ hs.length) : Held w (.slice (cutAt ao c l) (hs.length - l) (c - l)) (hs.drop l) := by
  rcases h with ⟨e, rfl⟩ | ⟨g, o, c', e, h1, h2, h3, h4, hg⟩
  · injection e with e1 e2 e3
    subst e1 e3
    refine .inl ⟨?_, by simp⟩
    simp at hl
    subst hl
    simp [cutAt]
  · injection e with e1 e2 e3
    subst e1 e3
    by_cases hc : c = l
    · refine .inr ⟨g, o, c - l, by simp [cutAt, hc], by simp; omega, by omega, fun j hj => by omega, fun j u hu => ?_, hg⟩
      have : hs.drop l = [] := List.drop_of_length_le (by omega)
      rw [this] at hu
      simp [secCells] at hu
    · refine .inr ⟨g, o + l, c - l, by simp [cutAt, hc, Addr.add_mid], by simp; omega, by omega, fun j hj => by rw [Nat.add_assoc]; exact h3 (l + j) (by omega), fun j u hu => ?_, hg⟩
      rw [Nat.add_assoc]
      refine h4 (l + j) u ?_
      have : secCells (hs.drop l) = (secCells hs).drop l := by simp [secCells]
      rw [this, List.getElem?_drop] at hu
      exact hu
theorem held_sl {w : World} {v : Value} {hs : List UInt8} (h : Held w v hs) : Sl w v hs := by
  rcases h with ⟨rfl, rfl⟩ | ⟨g, o, c', rfl, h1, h2, h3, h4, hg⟩
  · exact .inl ⟨_, rfl, rfl⟩
  · exact .inr ⟨_, _, rfl, fun j u hu => by rw [Addr.add_mid]; exact h4 j u hu⟩
theorem cut_sl {w : World} {ao : Option Addr} {c : Nat} {hs : List UInt8} (h : Held w (.slice ao hs.length c) hs) (l k : Nat) (hl : l ≤ k) (hk : k ≤ hs.length) : Sl w (.slice (cutAt ao c l) (k - l) (c - l)) ((hs.drop l).take (k - l)) := by
  have hlen : ((hs.drop l).take (k - l)).length = k - l := by simp; omega
  rcases held_sl (cut_held h l (by omega)) with ⟨c', e, hn⟩ | ⟨a, c', e, hc⟩
  · injection e with e1 e2 e3
    refine .inl ⟨c - l, ?_, by rw [hn]; simp⟩
    rw [e1, show k - l = 0 by omega]
  · injection e with e1 e2 e3
    refine .inr ⟨a, c - l, by rw [e1, hlen], fun j u hu => hc j u ?_⟩
    have he : secCells ((hs.drop l).take (k - l)) = (secCells (hs.drop l)).take (k - l) := by simp [secCells]
    rw [he, List.getElem?_take] at hu
    split at hu
    · exact hu
    · simp at hu
theorem cut_block (ao : Option Addr) (c l n m c' : Nat) : (Value.slice (cutAt ao c l) n m).ownBlock = (Value.slice ao n c').ownBlock := by
  cases ao with
  | none => simp [cutAt, Value.ownBlock]
  | some a =>
    by_cases e : c = l
    · simp [cutAt, e, Value.ownBlock]
    · simp [cutAt, e, Value.ownBlock, Addr.add]
      split <;> rfl

set_option maxHeartbeats 400000 in
theorem trim_arg {w : World} {q p : Nat} {gp : List Nat} {R : Rg} (pos : Nat) (h : RgAt w q p gp R) (hp : R.fin < pos) :
    Calls Try.prog 20 #[.pointer (some ⟨q, 0, none⟩), .int .i64 (pos : Int)] w fun e w' => e = .returned (.int .i64 1) ∧ w' = w := by
  obtain ⟨hv, h⟩ := h
  have k3 := h.c3
  have k4 := h.c4
  have b1 := h.wf.lo
  clear h
  have hd : decide ((pos : Int) < (R.start : Int)) = false := by simp; omega
  go_enter Try.func20, Try.ntmps20
  go_wp2
  go_ret
  exact ⟨rfl, rfl⟩

theorem trimmed_is {w : World} {q p : Nat} {gp : List Nat} {R : Rg} {ho : Option Addr} {hc : Nat} (pos : Nat) (h : RgIs w q p gp R (.slice ho R.held.length hc)) (h1 : R.start ≤ pos) (h2 : pos ≤ R.fin) (h3 : pos ≤ 2199023255552) :
    RgAt ((w.setCell ⟨q, 5, none⟩ (.slice (cutAt ho hc (pos - R.start)) (R.held.length - (pos - R.start)) (hc - (pos - R.start)))).setCell ⟨q, 3, none⟩ (.int .i64 (pos : Int))) q p gp { R with start := pos, held := R.held.drop (pos - R.start) } ∧
    Off gp w ((w.setCell ⟨q, 5, none⟩ (.slice (cutAt ho hc (pos - R.start)) (R.held.length - (pos - R.start)) (hc - (pos - R.start)))).setCell ⟨q, 3, none⟩ (.int .i64 (pos : Int))) := by
  have hle : pos - R.start ≤ R.held.length := by have := h.wf.hi; unfold Rg.tail at this; omega
  have hcb := cut_block ho hc (pos - R.start) (R.held.length - (pos - R.start)) (hc - (pos - R.start)) hc
  have hcb' : (Value.slice (cutAt ho hc (pos - R.start)) (R.held.length - (pos - R.start)) (hc - (pos - R.start))).ownBlock = (Value.slice ho R.held.length hc).ownBlock := by rw [hcb]; cases ho <;> rfl
  obtain ⟨V, hV⟩ : ∃ V, Value.slice (cutAt ho hc (pos - R.start)) (R.held.length - (pos - R.start)) (hc - (pos - R.start)) = V := ⟨_, rfl⟩
  have hh := cut_held h.held (pos - R.start) hle
  rw [hV] at hcb' hh ⊢
  have e1 := heap_setCell_same w q 5 _ _ V h.head
  have e2 := heap_setCell_same _ q 3 _ _ (.int .i64 (pos : Int)) e1
  refine ⟨⟨V, ⟨?_, e2, ?_, by rw [hcb']; exact h.ne, h.inQ, fun k hk => h.inH k (by rw [← hcb']; exact hk), fun k hk => by simpa [World.setCell] using h.lim k hk⟩⟩, ((Off.refl gp w).setCell _ _ (.inl h.inQ)).setCell _ _ (.inl h.inQ)⟩
  · refine ⟨h.wf.two, h.wf.many, h.wf.fr, h3, ?_, h2, ?_⟩
    · have := h.wf.held
      show (R.held.drop _).length ≤ _
      rw [List.length_drop]; omega
    · have := h.wf.hi
      unfold Rg.tail at this ⊢
      show R.fin ≤ pos + (R.held.drop _).length
      rw [List.length_drop]; omega
  · refine hh.stay (by simp [World.setCell]) (fun k hk => ?_)
    have hkq : k ≠ q := fun e => h.ne (by rw [← hcb', hk, e])
    rw [heap_setCell_other _ _ k _ hkq, heap_setCell_other _ _ k _ hkq]

set_option maxHeartbeats 400000 in
theorem trim_ok {w : World} {q p : Nat} {gp : List Nat} {R : Rg} (pos : Nat) (h : RgAt w q p gp R) (h1 : R.start ≤ pos) (h2 : pos ≤ R.fin) (h3 : pos ≤ 2199023255552) :
    Calls Try.prog 20 #[.pointer (some ⟨q, 0, none⟩), .int .i64 (pos : Int)] w fun e w' => e = .returned (.int .i64 0) ∧ RgAt w' q p gp { R with start := pos, held := R.held.drop (pos - R.start) } ∧ Off gp w w' := by
  obtain ⟨hv, h⟩ := h
  obtain ⟨ho, hc, hhv⟩ := h.held.len
  subst hhv
  have k3 := h.c3
  have k4 := h.c4
  have k5 := h.c5
  have f3 := h.fz 3
  have f5 := h.fz 5
  have hle : pos - R.start ≤ R.held.length := by have := h.wf.hi; unfold Rg.tail at this; omega
  have hd : decide ((pos : Int) < (R.start : Int)) = false := by simp; omega
  have hd2 : decide ((R.fin : Int) < (pos : Int)) = false := by simp; omega
  have b1 := h.wf.start
  have hsub : (pos : Int) - (R.start : Int) = ((pos - R.start : Nat) : Int) := by omega
  have hcut := fun w => run_cut_from w ho R.held.length hc (pos - R.start) hle
  have HI := hide h
  clear h
  go_enter Try.func20, Try.ntmps20
  go_wp2
  go_region
  all_goals go_wp2
  all_goals go_ret
  all_goals
    obtain ⟨r1, r2⟩ := trimmed_is pos (HI.out.drewN 1) h1 h2 h3
    exact ⟨rfl, r1, ⟨r2.os, r2.tape, r2.output, r2.size, r2.block⟩⟩
end Go.Proofs.Ytkkmkcobmjdblaa
