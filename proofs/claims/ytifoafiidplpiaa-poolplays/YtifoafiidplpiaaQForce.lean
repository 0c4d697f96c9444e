/- PoolPlays's own force: it keeps what it was asked for, and fails of one LSN. -/
import Derived.Test.YtifoafiidplpiaaQRep
namespace Go.Proofs.Ytifoafiidplpiaa
open Go.RowKit
set_option linter.unusedVariables false
set_option linter.unusedSimpArgs false

theorem Try.info3 : (Try.prog.info? 3).map (fun i => (i.zero, i.size, i.bytes)) = some (some (.int .i64 0), 1, 8) := by kernel_rfl
def PlaysHeld (gf gb : Nat) (bad : Int) (w : World) (ff : List Nat) (s : List Int) : Prop :=
  ∃ v, ff = gf :: gb :: v.ownBlock.toList ∧ w.heap[gf]? = some (.cells #[v] 49 (0, 0)) ∧ w.heap[gb]? = some (.cells #[.int .i64 bad] 3 (0, 0)) ∧ w.ownsRow 0 3 1 v s.length (intCells s) ∧ v.ownBlock ≠ some gf ∧ v.ownBlock ≠ some gb ∧ gf ≠ gb
set_option maxHeartbeats 1000000 in
set_option maxRecDepth 100000 in
theorem plays_call (gf gb : Nat) (bad l : Int) (s : List Int) (ff : List Nat) (w : World) (h : PlaysHeld gf gb bad w ff s) (hs : s.length ≤ 100000) :
    Calls Try.prog 17 #[.int .i64 l, .pointer (some ⟨gf, 0, none⟩), .pointer (some ⟨gb, 0, none⟩)] w fun e w' => e = .returned (.int .i64 (if l = bad then 60 else 0)) ∧ ∃ ff', PlaysHeld gf gb bad w' ff' (s ++ [l]) ∧ Off ff w w' ∧ ∀ k ∈ ff', k ∈ ff ∨ w.heap.size ≤ k := by
  obtain ⟨v, rfl, h1, h2, h3, h4, h5, h6⟩ := h
  obtain ⟨ao, m, c, rfl⟩ := own_form h3
  have cf : w.cell? ⟨gf, 0, none⟩ = some (.slice ao m c) := by rw [cell_of_row w gf 0 _ _ _ h1]; rfl
  have lf : gf < w.heap.size := (Array.getElem?_eq_some_iff.1 h1).1
  have lb : gb < w.heap.size := (Array.getElem?_eq_some_iff.1 h2).1
  have HB1 : Hid (Below w.heap.size w (w.alloc (.cells #[.int .i64 l] 3))) := (Below.refl _ _).alloc (Nat.le_refl _) _
  have HF1 := hide ((HB1.out.block gf lf).trans h1)
  have HG1 := hide ((HB1.out.block gb lb).trans h2)
  have HOWN := hide (owns_of_block h3 (fun b hb => HB1.out.block b ((h3.lt b hb).2)))
  have HNW : Hid ((w.alloc (.cells #[.int .i64 l] 3)).heap[w.heap.size]? = some (.cells [.int .i64 l].toArray 3 (0, 0))) := heap_alloc_new _ _
  have HSRC := hide (src_of_block HNW.out)
  have H4 := hide h4
  have H5 := hide h5
  have HL : Hid (∀ k, (Value.slice ao m c).ownBlock = some k → k < w.heap.size) := fun k hk => (h3.lt k hk).2
  have HSL := hide hs
  clear h1 h2 h3 h4 h5 hs
  have fin : Hid (∀ v4 w4, w4.ownsRow 0 3 1 v4 (s.length + 1) (intCells s ++ [.int .i64 l]) → (w.alloc (.cells #[.int .i64 l] 3)).grownBy w4 (Value.slice ao m c).ownBlock → (∀ k, v4.ownBlock = some k → (Value.slice ao m c).ownBlock = some k ∨ (w.alloc (.cells #[.int .i64 l] 3)).heap.size ≤ k) →
      ∃ ff', PlaysHeld gf gb bad (w4.setCell ⟨gf, 0, none⟩ v4) ff' (s ++ [l]) ∧ Off (gf :: gb :: (Value.slice ao m c).ownBlock.toList) w (w4.setCell ⟨gf, 0, none⟩ v4) ∧ ∀ k ∈ ff', k ∈ gf :: gb :: (Value.slice ao m c).ownBlock.toList ∨ w.heap.size ≤ k) := fun v4 w4 r1 r2 r3 => by
    have hsz : (w.alloc (.cells #[.int .i64 l] 3)).heap.size = w.heap.size + 1 := by simp
    have e1 : w4.heap[gf]? = some (.cells #[.slice ao m c] 49 (0, 0)) := (r2.block gf (by omega) (Ne.symm H4.out)).trans HF1.out
    have e2 : w4.heap[gb]? = some (.cells #[.int .i64 bad] 3 (0, 0)) := (r2.block gb (by omega) (Ne.symm H5.out)).trans HG1.out
    have n4 : v4.ownBlock ≠ some gf := fun e => by
      rcases r3 gf e with h | h
      · exact H4.out h
      · omega
    have n5 : v4.ownBlock ≠ some gb := fun e => by
      rcases r3 gb e with h | h
      · exact H5.out h
      · omega
    have hO : Off (gf :: gb :: (Value.slice ao m c).ownBlock.toList) w (w4.setCell ⟨gf, 0, none⟩ v4) :=
      (((Off.refl _ w).alloc _).grown r2 (fun k hk => .inl (by simp [hk]))).setCell _ _ (.inl (by simp))
    refine ⟨_, ⟨v4, rfl, ?_, ?_, ?_, n4, n5, h6⟩, hO, fun k hk => ?_⟩
    · rw [heap_setCell_same w4 gf 0 _ _ _ e1]; rfl
    · rw [heap_setCell_other w4 _ gb _ (by simpa using Ne.symm h6)]; exact e2
    · rw [intCells_snoc, List.length_append]
      exact owns_of_block r1 (fun k hk => heap_setCell_other w4 _ k _ (fun e => n4 (by have e : k = gf := e; rw [hk, e])))
    · simp only [List.mem_cons] at hk ⊢
      rcases hk with h | h | h
      · exact .inl (.inl h)
      · exact .inl (.inr (.inl h))
      · rcases r3 k (by simpa using h) with h' | h'
        · exact .inl (.inr (.inr (by simp [h'])))
        · exact .inr (by omega)
  have arm : Hid (∀ v4 w4, w4.ownsRow 0 3 1 v4 (s.length + 1) (intCells s ++ [.int .i64 l]) → (w.alloc (.cells #[.int .i64 l] 3)).grownBy w4 (Value.slice ao m c).ownBlock → w4.cell? ⟨gf, 0, none⟩ = some (.slice ao m c) ∧ w4.frozen? ⟨gf, 0, none⟩ = false ∧ (w4.setCell ⟨gf, 0, none⟩ v4).cell? ⟨gb, 0, none⟩ = some (.int .i64 bad)) := fun v4 w4 r1 r2 => by
    have hsz : (w.alloc (.cells #[.int .i64 l] 3)).heap.size = w.heap.size + 1 := by simp
    have e1 : w4.heap[gf]? = some (.cells #[.slice ao m c] 49 (0, 0)) := (r2.block gf (by omega) (Ne.symm H4.out)).trans HF1.out
    have e2 : w4.heap[gb]? = some (.cells #[.int .i64 bad] 3 (0, 0)) := (r2.block gb (by omega) (Ne.symm H5.out)).trans HG1.out
    refine ⟨by rw [cell_of_row w4 gf 0 _ _ _ e1]; rfl, frozen_of_row w4 gf 0 _ _ e1, ?_⟩
    have : (w4.setCell ⟨gf, 0, none⟩ v4).heap[gb]? = some (.cells #[.int .i64 bad] 3 (0, 0)) := by rw [heap_setCell_other w4 _ gb _ (by simpa using Ne.symm h6)]; exact e2
    rw [cell_of_row _ gb 0 _ _ _ this]; rfl
  by_cases hb : l = bad
  · rw [if_pos hb]
    have hbb : (l == bad) = true := by simp [hb]
    clear hb
    go_enter Try.func17, Try.ntmps17
    go_wp2_with (refine wpList_append_owned rfl _ _ 49 rfl 3 (.int .i64 0) 1 8 Try.underlying49 Try.info3 rfl (by omega) _ _ _ rfl HOWN.out ⟨w.heap.size, 0, none⟩ 1 1 [.int .i64 l] rfl rfl HSRC.out (by intro u hu; simp at hu; subst hu; rfl) (by have := HSL.out; simp only [maxLen]; omega) (by have := HSL.out; omega) ?_; intro v4 w4 r1 r2 r3; obtain ⟨q1, q2, q3⟩ := arm.out v4 w4 r1 r2; have FIN := hide (fin.out v4 w4 r1 r2 r3); obtain ⟨ao4, m4, c4, rfl⟩ := own_form r1; clear r1 r2 r3)
    go_ret
    exact ⟨rfl, FIN.out⟩
  · rw [if_neg hb]
    have hbb : (l == bad) = false := beq_eq_false_iff_ne.2 hb
    clear hb
    go_enter Try.func17, Try.ntmps17
    go_wp2_with (refine wpList_append_owned rfl _ _ 49 rfl 3 (.int .i64 0) 1 8 Try.underlying49 Try.info3 rfl (by omega) _ _ _ rfl HOWN.out ⟨w.heap.size, 0, none⟩ 1 1 [.int .i64 l] rfl rfl HSRC.out (by intro u hu; simp at hu; subst hu; rfl) (by have := HSL.out; simp only [maxLen]; omega) (by have := HSL.out; omega) ?_; intro v4 w4 r1 r2 r3; obtain ⟨q1, q2, q3⟩ := arm.out v4 w4 r1 r2; have FIN := hide (fin.out v4 w4 r1 r2 r3); obtain ⟨ao4, m4, c4, rfl⟩ := own_form r1; clear r1 r2 r3)
    go_ret
    exact ⟨rfl, FIN.out⟩
def Force.plays (gf gb : Nat) (bad : Int) : Force where
  σ := List Int
  g := 17
  cb := #[.pointer (some ⟨gf, 0, none⟩), .pointer (some ⟨gb, 0, none⟩)]
  held := PlaysHeld gf gb bad
  step := fun s l => (if l = bad then 60 else 0, s ++ [l])
  ok := fun s => s.length ≤ 100000
  stay := fun w w' ff s h _ hk => by
    obtain ⟨v, rfl, h1, h2, h3, h4, h5, h6⟩ := h
    exact ⟨v, rfl, (hk gf (by simp)).trans h1, (hk gb (by simp)).trans h2, owns_of_block h3 (fun k hb => hk k (by simp [hb])), h4, h5, h6⟩
  lim := fun w ff s h k hk => by
    obtain ⟨v, rfl, h1, h2, h3, h4, h5, h6⟩ := h
    simp only [List.mem_cons] at hk
    rcases hk with rfl | rfl | hk
    · exact (Array.getElem?_eq_some_iff.1 h1).1
    · exact (Array.getElem?_eq_some_iff.1 h2).1
    · exact (h3.lt k (by simpa using hk)).2
  enters := enters_of Try.func17 (by kernel_rfl) rfl
  call := fun w ff s l h hok _ _ => plays_call gf gb bad l s ff w h hok
end Go.Proofs.Ytifoafiidplpiaa
