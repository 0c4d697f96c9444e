/- The document's pool: find. -/
import Derived.Test.YtifoafiidplpiaaQForce
namespace Go.Proofs.Ytifoafiidplpiaa
open Go.RowKit
set_option linter.unusedVariables false
set_option linter.unusedSimpArgs false

def idxOf : Option Nat → Int
  | some i => (i : Int)
  | none => -1
def Pl.rfind {σ : Type} (S : Pl σ) (m : Int) : Option Nat := S.fs.findIdx? (fun f => pageNo f == m)
theorem rfind_eq {σ : Type} (S : Pl σ) (m : Int) (h : 0 ≤ m) : S.rfind m = S.find m := by
  unfold Pl.rfind Pl.find
  congr 1
  funext f
  unfold pageNo Fm.is
  cases hh : f.held with
  | true => simp
  | false =>
    simp only [Bool.false_and, Bool.false_eq_true, if_false]
    exact beq_eq_false_iff_ne.2 (by omega)
section
variable {w w' : World} {r gD gF cD cF : Nat} {dx fx : List Value} {fov : Value} {S : Pl (List Int)} {bad : Int} {fp : List Nat}
set_option maxHeartbeats 400000 in
set_option maxRecDepth 100000 in
theorem rfind_any (h : RefIs w r gD gF cD cF dx fx fov S bad) (m : Int) :
    Calls Try.prog 42 #[.pointer (some ⟨r, 0, none⟩), .int .i64 m] w fun e w' => e = .returned (.int .i64 (idxOf (S.rfind m))) ∧ w' = w := by
  have c1 := h.c1
  have hm64 := h.f2
  have H := hide h
  clear h
  go_enter Try.func42, Try.ntmps42
  go_wp2
  go_loopw [5] (fun i wr => ∃ k : Nat, k ≤ S.fs.length ∧ i = .int .i64 k ∧ (∀ (j : Nat) y, j < k → S.fs[j]? = some y → (pageNo y == m) = false) ∧ wr = w) (fun i _ => S.fs.length - (intOf i).toNat)
  case atStart => exact ⟨0, by omega, rfl, fun j y hj => by omega, rfl⟩
  case round =>
    obtain ⟨k, hk, rfl, hno, rfl⟩ := hrel
    have HNO := hide hno
    clear hno
    by_cases hlt : k < S.fs.length
    · obtain ⟨f, hf⟩ : ∃ f, S.fs[k]? = some f := ⟨_, List.getElem?_eq_getElem hlt⟩
      obtain ⟨_, d0, _⟩ := H.out.cells k f hf
      have HF := hide hf
      clear hf
      obtain ⟨N, hN⟩ : ∃ N, S.fs.length = N := ⟨_, rfl⟩
      rw [hN] at hlt hk c1 hm64
      have HN := hide hN
      clear hN
      by_cases hp : pageNo f = m
      · rw [hp] at d0
        have HR : Hid (S.rfind m = some k) := findIdx_yes _ _ k f HF.out (by simp [hp]) HNO.out
        go_wp2
        go_ret
        rw [HR.out]
        exact ⟨rfl, rfl⟩
      · have hpb : (pageNo f == m) = false := beq_eq_false_iff_ne.2 hp
        have HX := hide hpb
        obtain ⟨pn, hpn⟩ : ∃ pn, pageNo f = pn := ⟨_, rfl⟩
        rw [hpn] at d0 hpb hp
        clear hpn
        go_wp2
        go_roundw
        case rel =>
          refine ⟨k + 1, by rw [HN.out]; omega, by go_num, fun j y hj hy => ?_, by first | rfl | trivial⟩
          by_cases e : j = k
          · subst e; rw [HF.out] at hy; cases hy; exact HX.out
          · exact HNO.out j y (by omega) hy
        case measure => rw [HN.out]; simp [intOf]; omega
    · have hk' : k = S.fs.length := by omega
      have HR : Hid (S.rfind m = none) := findIdx_no _ _ (fun j y hy => HNO.out j y (by have := (List.getElem?_eq_some_iff.1 hy).1; omega) hy)
      go_wp2
      go_ret
      rw [HR.out]
      exact ⟨rfl, rfl⟩
theorem run_index58 (w : World) (lb n cap i : Nat) (h : i < n) : (Instr.indexAt 58 (.slice (some ⟨lb, 0, none⟩) n cap) (.int .i64 (i : Int))).run Try.prog w = .ok (.pointer (some ⟨lb, i * 6, none⟩)) w := by
  have hu := Try.underlying58
  have hs := Try.sizeOf63
  simp [go_sem, hu, hs, h]
theorem run_index57 (w : World) (lb n cap i : Nat) (h : i < n) : (Instr.indexAt 57 (.slice (some ⟨lb, 0, none⟩) n cap) (.int .i64 (i : Int))).run Try.prog w = .ok (.pointer (some ⟨lb, i, none⟩)) w := by
  have hu := Try.underlying57
  have hs := Try.sizeOf9
  simp [go_sem, hu, hs, h]
theorem run_store49 (w : World) (p k : Nat) (u : Value) (ao : Option Addr) (m c : Nat) (h : w.cell? ⟨p, k, none⟩ = some u) (hf : w.frozen? ⟨p, k, none⟩ = false) :
    (Instr.storeAt 49 (.pointer (some ⟨p, k, none⟩)) (.slice ao m c)).run Try.prog w = .ok () (w.setCell ⟨p, k, none⟩ (.slice ao m c)) := by
  simp [go_sem, h, hf]
theorem run_store9 (w : World) (p k : Nat) (u : Value) (s : ByteArray) (h : w.cell? ⟨p, k, none⟩ = some u) (hf : w.frozen? ⟨p, k, none⟩ = false) :
    (Instr.storeAt 9 (.pointer (some ⟨p, k, none⟩)) (.string s)).run Try.prog w = .ok () (w.setCell ⟨p, k, none⟩ (.string s)) := by
  simp [go_sem, h, hf]
theorem Try.buildInt (l : Int) (w : World) : (Instr.buildSlice 49 1 #[(0, .int .i64 l)]).run Try.prog w = .ok (.slice (some ⟨w.heap.size, 0, none⟩) 1 1) (w.alloc (.cells #[.int .i64 l] 3)) := by kernel_rfl
/-- One more LSN was forced. -/
theorem RefIs.forced (h : RefIs w r gD gF cD cF dx fx fov S bad) (L : Int) {v4 : Value} {w1 w4 : World} (hw1 : Off [] w w1) (r1 : w4.ownsRow 0 3 1 v4 (S.fo.length + 1) (intCells S.fo ++ [.int .i64 L])) (r2 : w1.grownBy w4 fov.ownBlock)
    (r3 : ∀ k, v4.ownBlock = some k → fov.ownBlock = some k ∨ w1.heap.size ≤ k) :
    RefIs (w4.setCell ⟨r, 5, none⟩ v4) r gD gF cD cF dx fx v4 { S with fo := S.fo ++ [L] } bad ∧ Off (RefFp r gD gF fov) w (w4.setCell ⟨r, 5, none⟩ v4) ∧ (∀ k ∈ RefFp r gD gF v4, k ∈ RefFp r gD gF fov ∨ w.heap.size ≤ k) ∧
      w4.cell? ⟨r, 5, none⟩ = some fov ∧ w4.frozen? ⟨r, 5, none⟩ = false ∧ (∀ k ∈ [r, gF], w4.heap[k]? = w.heap[k]?) := by
  have lr := h.lts r (by simp [RefFp])
  have lD := h.lts gD (by simp [RefFp])
  have lF := h.lts gF (by simp [RefFp])
  have hsz := hw1.size
  have b1 : ∀ k, k < w.heap.size → w1.heap[k]? = w.heap[k]? := fun k hk => hw1.block k hk (by simp)
  have eR : w4.heap[r]? = w.heap[r]? := (r2.block r (by omega) (Ne.symm h.n4)).trans (b1 r lr)
  have eD : w4.heap[gD]? = w.heap[gD]? := (r2.block gD (by omega) (Ne.symm h.n5)).trans (b1 gD lD)
  have eF : w4.heap[gF]? = w.heap[gF]? := (r2.block gF (by omega) (Ne.symm h.n6)).trans (b1 gF lF)
  have nn : ∀ g, g < w.heap.size → fov.ownBlock ≠ some g → v4.ownBlock ≠ some g := fun g hg hn e => by
    rcases r3 g e with h1 | h1
    · exact hn h1
    · omega
  have m4 := nn r lr h.n4
  have m5 := nn gD lD h.n5
  have m6 := nn gF lF h.n6
  refine ⟨?_, ?_, ?_, ?_, ?_, ?_⟩
  · exact { h with
      head := by rw [heap_setCell_same w4 r 5 _ _ _ (eR.trans h.head)]; rfl
      drow := by rw [heap_setCell_other w4 _ gD _ (by simpa using Ne.symm h.n1)]; exact eD.trans h.drow
      frow := by rw [heap_setCell_other w4 _ gF _ (by simpa using Ne.symm h.n2)]; exact eF.trans h.frow
      fown := by
        rw [intCells_snoc, List.length_append]
        exact owns_of_block r1 (fun k hk => heap_setCell_other w4 _ k _ (fun e => m4 (by have e : k = r := e; rw [hk, e])))
      n4 := m4
      n5 := m5
      n6 := m6 }
  · exact ((((Off.refl _ w).trans hw1 (by simp)).grown r2 (fun k hk => .inl (by simp [RefFp, hk])))).setCell _ _ (.inl (by simp [RefFp]))
  · intro k hk
    simp only [RefFp, List.mem_cons] at hk ⊢
    rcases hk with h1 | h1 | h1 | h1
    · exact .inl (.inl h1)
    · exact .inl (.inr (.inl h1))
    · exact .inl (.inr (.inr (.inl h1)))
    · rcases r3 k (by simpa using h1) with h2 | h2
      · exact .inl (.inr (.inr (.inr (by simp [h2]))))
      · exact .inr (by omega)
  · rw [cell_of_row w4 r 5 _ _ _ (eR.trans h.head)]; rfl
  · exact frozen_of_row w4 r 5 _ _ (eR.trans h.head)
  · intro k hk
    simp only [List.mem_cons, List.not_mem_nil, or_false] at hk
    rcases hk with rfl | rfl
    · exact eR
    · exact eF
end
end Go.Proofs.Ytifoafiidplpiaa
