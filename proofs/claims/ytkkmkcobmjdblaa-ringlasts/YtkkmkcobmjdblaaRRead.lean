/- The law of Read: new memory with the bytes. -/
import Derived.Test.YtkkmkcobmjdblaaRTrim
namespace Go.Proofs.Ytkkmkcobmjdblaa
open Go.RowKit
set_option linter.unusedVariables false
set_option linter.unusedSimpArgs false

def zerosN (n : Nat) : List UInt8 := List.replicate n 0
theorem length_zerosN (n : Nat) : (zerosN n).length = n := by simp [zerosN]
theorem makeN (n : Nat) (hn : n ≤ 2000000) (w : World) : (Instr.makeSlice 27 (.int .i64 (n : Int)) (.int .i64 (n : Int))).run Try.prog w = .ok (.slice (some ⟨w.heap.size, 0, none⟩) n n) (w.alloc (.cells (secCells (zerosN n)).toArray 5)) := by
  have h := run_make_row' (P := Try.prog) 27 5 (.int .u8 0) 1 Try.underlying27 Try.info5 rfl .i64 .i64 n (by omega) (by omega) w
  have e : madeCells #[.int .u8 0] n = (secCells (zerosN n)).toArray := by
    have := made_same (bcell 0) 1 n (by omega)
    simpa [secCells, zerosN, bcell] using this
  rw [e] at h
  exact h

theorem cut_src {w : World} {ao : Option Addr} {c : Nat} {hs : List UInt8} (h : Held w (.slice ao hs.length c) hs) (l k : Nat) (hl : l ≤ hs.length) :
    0 < (secCells ((hs.drop l).take k)).length → ∃ ad, cutAt ao c l = some ad ∧ ∀ j v, (secCells ((hs.drop l).take k))[j]? = some v → w.cell? (ad.add j) = some v := by
  intro hp
  rcases held_sl (cut_held h l hl) with ⟨c', e, hn⟩ | ⟨a, c', e, hc⟩
  · rw [hn] at hp
    simp [secCells] at hp
  · injection e with e1 e2 e3
    refine ⟨a, e1, fun j u hu => hc j u ?_⟩
    have he : secCells ((hs.drop l).take k) = (secCells (hs.drop l)).take k := by simp [secCells]
    rw [he, List.getElem?_take] at hu
    split at hu
    · exact hu
    · simp at hu
theorem Try.size5 : (Try.prog.info? 5).map (·.size) = some 1 := by kernel_rfl

set_option maxHeartbeats 400000 in
theorem rread_ok {w : World} {q p : Nat} {gp : List Nat} {R : Rg} (pos k : Nat) (h : RgAt w q p gp R) (h1 : R.start ≤ pos) (h2 : pos + k ≤ R.tail) :
    Calls Try.prog 13 #[.pointer (some ⟨q, 0, none⟩), .int .i64 (pos : Int), .int .i64 (k : Int)] w fun e w' => ∃ g, e = .returned (.tuple #[.slice (some ⟨g, 0, none⟩) k k, .int .i64 0]) ∧ w.heap.size ≤ g ∧
      w'.heap[g]? = some (.cells (secCells ((R.held.drop (pos - R.start)).take k)).toArray 5 (0, 0)) ∧ Below w.heap.size w w' := by
  have HT := hide (fun m => tail_any (h.drewN m))
  have HT0 := hide (tail_any h)
  obtain ⟨hv, h⟩ := h
  have ht : R.tail = R.start + R.held.length := rfl
  have b1 := h.wf.start
  have b2 := h.wf.held
  obtain ⟨ho, hc, hhv⟩ := h.held.len
  subst hhv
  have k3 := h.c3
  have k5 := h.c5
  have hq := h.lt
  have HI := hide h
  clear h
  have hd1 : decide ((pos : Int) < (R.start : Int)) = false := by simp; omega
  have hd2 : decide ((R.tail : Int) < (pos : Int)) = false := by simp; omega
  have hd3 : decide ((R.tail : Int) - (pos : Int) < (k : Int)) = false := by simp; omega
  have hmk := makeN k (by omega)
  have hsub : (pos : Int) - (R.start : Int) = ((pos - R.start : Nat) : Int) := by omega
  have hcut := fun w => run_cut_from w ho R.held.length hc (pos - R.start) (by omega)
  go_enter Try.func13, Try.ntmps13
  go_wp2_with (first
    | (go_at_call 29; refine HT0.out.mono ?_; rintro e w' ⟨rfl, m, rfl⟩)
    | (go_at_call 29; refine (HT.out _).mono ?_; rintro e w' ⟨rfl, m, rfl⟩))
  clear hmk hd1 hd2 hd3 HT HT0
  generalize hW1 : World.alloc _ (Obj.cells (secCells (zerosN k)).toArray 5) = W1
  have hB1 : Below w.heap.size w W1 := by rw [← hW1]; exact (below_drewN _ _ _).alloc (Nat.le_refl _) _
  have HG : Hid (W1.drew.heap[w.heap.size]? = some (.cells (secCells (zerosN k)).toArray 5 (0, 0))) := by show _ = _; rw [← hW1]; exact heap_alloc_new _ _
  clear hW1
  have HB : Hid (Below w.heap.size w W1.drew) := hB1.drew
  have h3 := HI.out.below HB.out
  have k35 : W1.cell? ⟨q, 5, none⟩ = some (.slice ho R.held.length hc) := h3.c5
  have k33 : W1.cell? ⟨q, 3, none⟩ = some (.int .i64 R.start) := h3.c3
  have hdl : pos - R.start ≤ R.held.length := by omega
  obtain ⟨X, hX⟩ : ∃ X, X = (R.held.drop (pos - R.start)).take k := ⟨_, rfl⟩
  have hXl : X.length = k := by rw [hX]; simp; omega
  have HXE := hide hX
  have HN : Hid ((secCells X).length = Nat.min (R.held.length - (pos - R.start)) k) := by
    show _ = _
    rw [length_secCells, hXl]
    exact (Nat.min_eq_right (by omega)).symm
  have HPOS : Hid (0 < (secCells X).length → some (⟨w.heap.size, 0, none⟩ : Addr) = some ⟨w.heap.size, 0, none⟩ ∧ ∃ ad, cutAt ho hc (pos - R.start) = some ad ∧ ∀ j v, (secCells X)[j]? = some v → W1.drew.cell? (ad.add j) = some v) := by
    intro hp
    rw [hX] at hp ⊢
    exact ⟨rfl, cut_src h3.held _ k hdl hp⟩
  have HFIT : Hid (0 + (secCells X).length ≤ (secCells (zerosN k)).length) := by show _ ≤ _; rw [length_secCells, length_secCells, length_zerosN]; omega
  have HST : Hid (∀ w4, Below w.heap.size w w4 → w4.cell? ⟨q, 5, none⟩ = some (.slice ho R.held.length hc) ∧ w4.cell? ⟨q, 3, none⟩ = some (.int .i64 R.start)) := fun w4 hb => by
    have h4 := HI.out.below hb
    exact ⟨h4.c5, h4.c3⟩
  have HXL := hide hXl
  clear h3 hX hXl k3 k5 hB1
  have hwr : IntKind.i64.wrap ((pos - R.start : Nat) : Int) = ((pos - R.start : Nat) : Int) := by rw [IntKind.wrap_i64]; omega
  go_region_held_law (fun w' => w'.cell? ⟨q, 5, none⟩ = some (.slice ho R.held.length hc) ∧ w'.cell? ⟨q, 3, none⟩ = some (.int .i64 R.start)) (simp [*])
    (first | (refine step_copy_splice rfl (.tmp 35) (.tmp 46) 27 27 rfl 5 Try.underlying27 Try.size5 (some ⟨w.heap.size, 0, none⟩) (cutAt ho hc (pos - R.start)) k k (R.held.length - (pos - R.start)) (hc - (pos - R.start)) rfl rfl w.heap.size 0 (secCells (zerosN k)) 5 HG.out (secCells X) HN.out HPOS.out HFIT.out (one_secCells _) w.heap.size w HB.out (Nat.le_refl _) ?_; intro w4 hg4 hb4; obtain ⟨c45, c43⟩ := HST.out w4 hb4))
  go_wp2
  go_ret2
  refine ⟨_, rfl, Nat.le_refl _, ?_, hb4⟩
  rw [hg4.out]
  congr 3
  unfold splice
  rw [List.take_zero, List.nil_append, List.drop_of_length_le (by rw [length_secCells, length_secCells, length_zerosN, HXL.out]; omega), List.append_nil, HXE.out]
end Go.Proofs.Ytkkmkcobmjdblaa
