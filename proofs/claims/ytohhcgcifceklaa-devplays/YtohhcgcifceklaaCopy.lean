/- What Copy does: another device that is the same and shares no block with the first. -/
import Derived.Test.YtohhcgcifceklaaDev
import Derived.WalkSpells
import Derived.WalkLawsBesides
namespace Go.Proofs.Ytohhcgcifceklaa
open Go.RowKit
set_option linter.unusedVariables false
set_option linter.unusedSimpArgs false

set_option maxHeartbeats 400000 in
set_option maxRecDepth 100000 in
theorem clone_row (lb n lcap : Nat) (xs : List Value) (w : World) (h : w.ownsRow 0 65 128 (.slice (some ⟨lb, 0, none⟩) n lcap) n xs) (hn : n ≤ 8192) (h1 : ∀ u ∈ xs, u.oneCell' = true) :
    Calls Try.prog 31 #[.slice (some ⟨lb, 0, none⟩) n lcap] w fun e w' => ∃ v', e = .returned v' ∧ w'.ownsRow 0 65 128 v' n xs ∧ Below w.heap.size w w' ∧ ∀ k, v'.ownBlock = some k → w.heap.size ≤ k := by
  have hnil : ∀ w : World, (binOp BinOp.eql 58 (.slice (some ⟨lb, 0, none⟩) n lcap) (.slice none 0 0)).run Try.prog w = .ok (.bool false) w := fun w => Lib.run_eql_slice_nil w 58 65 _ _ _ _ _ Try.underlying58
  have HA := hide (h.alloc (.cells #[] 65))
  have H0 : Hid ((w.alloc (.cells #[] 65)).ownsRow 0 65 128 (.slice (some ⟨w.heap.size, 0, none⟩) 0 0) 0 []) := World.ownsRow_made w #[] 0 (Nat.zero_le _) (by simp) (by simp)
  have HL := hide h.1
  have H1 := hide h1
  have hB : Below w.heap.size w (w.alloc (.cells #[] 65)) := (Below.refl _ _).alloc (Nat.le_refl _) _
  clear h h1
  go_enter Try.func31, Try.ntmps31
  go_wp2_with (refine wpList_append_owned rfl (.tmp 5) (.tmp 6) 58 rfl 65 (.agg (zeros.map bcell).toArray) 128 128 Try.underlying58 Try.info65 (by simp [Value.cells, zeros]) (by omega) (.slice (some ⟨w.heap.size, 0, none⟩) 0 0) 0 [] rfl H0.out ⟨lb, 0, none⟩ n lcap xs rfl HL.out (HA.out.cells rfl) H1.out (by simp only [maxLen]; omega) (by omega) (fun v' w' r1 r2 r3 => ?_))
  go_ret
  rw [Nat.zero_add, List.nil_append] at r1
  refine ⟨v', rfl, r1, hB.grown r2 (by simp) (fun k hk => by simp [Value.ownBlock] at hk; omega), fun k hk => ?_⟩
  rcases r3 k hk with h | h
  · simp [Value.ownBlock] at h; omega
  · simp at h; omega

set_option maxHeartbeats 400000 in
set_option maxRecDepth 100000 in
theorem clone_ents (lb n lcap : Nat) (xs : List Value) (w : World) (h : w.ownsRow 0 67 129 (.slice (some ⟨lb, 0, none⟩) n lcap) n xs) (hn : n ≤ 1000000) (h1 : ∀ u ∈ xs, u.oneCell' = true) :
    Calls Try.prog 32 #[.slice (some ⟨lb, 0, none⟩) n lcap] w fun e w' => ∃ v', e = .returned v' ∧ w'.ownsRow 0 67 129 v' n xs ∧ Below w.heap.size w w' ∧ ∀ k, v'.ownBlock = some k → w.heap.size ≤ k := by
  have hnil : ∀ w : World, (binOp BinOp.eql 59 (.slice (some ⟨lb, 0, none⟩) n lcap) (.slice none 0 0)).run Try.prog w = .ok (.bool false) w := fun w => Lib.run_eql_slice_nil w 59 67 _ _ _ _ _ Try.underlying59
  have HA := hide (h.alloc (.cells #[] 67))
  have H0 : Hid ((w.alloc (.cells #[] 67)).ownsRow 0 67 129 (.slice (some ⟨w.heap.size, 0, none⟩) 0 0) 0 []) := World.ownsRow_made w #[] 0 (Nat.zero_le _) (by simp) (by simp)
  have HL := hide h.1
  have H1 := hide h1
  have hB : Below w.heap.size w (w.alloc (.cells #[] 67)) := (Below.refl _ _).alloc (Nat.le_refl _) _
  clear h h1
  go_enter Try.func32, Try.ntmps32
  go_wp2_with (refine wpList_append_owned rfl (.tmp 5) (.tmp 6) 59 rfl 67 (.agg zeroEnt) 129 136 Try.underlying59 Try.info67 (size_ent 0 zeros length_zeros) (by omega) (.slice (some ⟨w.heap.size, 0, none⟩) 0 0) 0 [] rfl H0.out ⟨lb, 0, none⟩ n lcap xs rfl HL.out (HA.out.cells rfl) H1.out (by simp only [maxLen]; omega) (by omega) (fun v' w' r1 r2 r3 => ?_))
  go_ret
  rw [Nat.zero_add, List.nil_append] at r1
  refine ⟨v', rfl, r1, hB.grown r2 (by simp) (fun k hk => by simp [Value.ownBlock] at hk; omega), fun k hk => ?_⟩
  rcases r3 k hk with h | h
  · simp [Value.ownBlock] at h; omega
  · simp at h; omega


set_option maxHeartbeats 400000 in
theorem clone_nil (w : World) : Calls Try.prog 32 #[.slice none 0 0] w fun e w' => e = .returned (.slice none 0 0) ∧ w' = w := by
  have hnil : ∀ w : World, (binOp BinOp.eql 59 (.slice none 0 0) (.slice none 0 0)).run Try.prog w = .ok (.bool true) w := fun w => Lib.run_eql_slice_nil w 59 67 _ _ _ _ _ Try.underlying59
  go_enter Try.func32, Try.ntmps32
  go_wp2
  go_ret
  exact ⟨rfl, rfl⟩

theorem clone_any (v : Value) (n : Nat) (xs : List Value) (w : World) (h : w.ownsRow 0 67 129 v n xs) (hn : n ≤ 1000000) (h1 : ∀ u ∈ xs, u.oneCell' = true) :
    Calls Try.prog 32 #[v] w fun e w' => ∃ v', e = .returned v' ∧ w'.ownsRow 0 67 129 v' n xs ∧ Below w.heap.size w w' ∧ ∀ k, v'.ownBlock = some k → w.heap.size ≤ k := by
  rcases h.2 with ⟨rfl, rfl⟩ | ⟨g, cap, cur, rfl, _⟩
  · refine (clone_nil w).mono ?_
    rintro e w' ⟨rfl, rfl⟩
    exact ⟨_, rfl, h, Below.refl _ _, fun k hk => by simp [Value.ownBlock] at hk⟩
  · exact clone_ents g n cap xs w h hn h1
theorem one_rows (L : List (List UInt8)) : ∀ u ∈ rowCells L, u.oneCell' = true := fun u hu => by
  obtain ⟨l, hl, hu⟩ := List.mem_flatten.1 hu
  obtain ⟨s, _, rfl⟩ := List.mem_map.1 hl
  exact one_secCells s u hu
theorem one_ents (W : List (Nat × List UInt8)) : ∀ u ∈ entCells W, u.oneCell' = true := fun u hu => by
  obtain ⟨l, hl, hu⟩ := List.mem_flatten.1 hu
  obtain ⟨s, _, rfl⟩ := List.mem_map.1 hl
  exact one_entOf s u hu

set_option maxHeartbeats 1000000 in
set_option maxRecDepth 100000 in
theorem copy_dev (p : Nat) (w : World) (fp : List Nat) (D : Dv) (h : DevAt w p fp D) (hm : D.W.length < 1000000) :
    Calls Try.prog 20 #[.pointer (some ⟨p, 0, none⟩)] w fun e w' => ∃ g fq, e = .returned (.pointer (some ⟨g, 0, none⟩)) ∧ DevAt w' g fq D ∧ (∀ k ∈ fq, w.heap.size ≤ k) ∧ Below w.heap.size w w' := by
  obtain ⟨lb, lcap, cv, h⟩ := h
  obtain ⟨co, cn, cc, hcv⟩ := own_form h.cache
  have k0 := h.c0
  have k1 := h.c1
  have k2 := h.c2
  have k3 := h.c3
  have k4 := h.c4
  have hp := h.lt
  subst hcv
  have H := hide h
  clear h
  go_enter Try.func20, Try.ntmps20
  go_wp2_with fail
  generalize hW1 : w.alloc _ = W1
  have hg1 : W1.heap[w.heap.size]? = some (.cells #[.slice (some ⟨lb, 0, none⟩) D.L.length lcap, .slice co cn cc, .int .i64 D.fuse, .bool D.dead, .int .i64 D.calls] 61 (0, 0)) := by
    rw [← hW1]; exact heap_alloc_new w _
  have hB1 : Below w.heap.size w W1 := by rw [← hW1]; exact (Below.refl _ _).alloc (Nat.le_refl _) _
  have h1 := H.out.below hB1
  clear hW1 k0 k1 k2 k3 k4
  have hgp : p ≠ w.heap.size := by omega
  generalize hgg : w.heap.size = g at *
  have HG := hide hgg
  clear hgg
  refine (clone_row lb D.L.length lcap _ W1 h1.row h1.wf.max (one_rows _)).mono ?_
  rintro e W2 ⟨v1, rfl, ho2, hB2, hf2⟩
  obtain ⟨lb2, lcap2, hv1⟩ : ∃ lb2 lcap2, v1 = .slice (some ⟨lb2, 0, none⟩) D.L.length lcap2 := by
    rcases ho2.2 with ⟨_, h0⟩ | ⟨g, cap, cur, hv, _⟩
    · have := h1.wf.pos; omega
    · exact ⟨g, cap, hv⟩
  subst hv1
  have hlt1 : g < W1.heap.size := (Array.getElem?_eq_some_iff.1 hg1).1
  have hg2 : W2.heap[g]? = some (.cells #[.slice (some ⟨lb, 0, none⟩) D.L.length lcap, .slice co cn cc, .int .i64 D.fuse, .bool D.dead, .int .i64 D.calls] 61 (0, 0)) := (hB2.block g hlt1).trans hg1
  have hl2 : W1.heap.size ≤ lb2 := hf2 lb2 rfl
  have h2 := h1.below hB2
  have c0 : W2.cell? ⟨g, 0, none⟩ = some (.slice (some ⟨lb, 0, none⟩) D.L.length lcap) := by rw [cell_of_row _ _ _ _ _ _ hg2]; rfl
  have f0 : W2.frozen? ⟨g, 0, none⟩ = false := frozen_of_row _ _ _ _ _ hg2
  obtain ⟨W3, hW3⟩ : ∃ W3, W2.setCell ⟨g, 0, none⟩ (.slice (some ⟨lb2, 0, none⟩) D.L.length lcap2) = W3 := ⟨_, rfl⟩
  have hg3 : W3.heap[g]? = some (.cells #[.slice (some ⟨lb2, 0, none⟩) D.L.length lcap2, .slice co cn cc, .int .i64 D.fuse, .bool D.dead, .int .i64 D.calls] 61 (0, 0)) := by
    rw [← hW3]; exact heap_setCell_same _ _ _ _ _ _ hg2
  have hO3 : Off [g] W2 W3 := by rw [← hW3]; exact (Off.refl _ _).setCell _ _ (.inl (by simp))
  have hlt2 : g < W2.heap.size := (Array.getElem?_eq_some_iff.1 hg2).1
  have ho3 : W3.ownsRow 0 65 128 (.slice (some ⟨lb2, 0, none⟩) D.L.length lcap2) D.L.length (rowCells D.L) := owns_of_block ho2 (fun k hk => hO3.block k (ho2.lt k hk).2 (by have := hf2 k hk; simp; omega))
  have h3 : DevIs W3 p fp D lb lcap (.slice co cn cc) := h2.stay hO3.size (fun k hk => by
    rcases hk with rfl | rfl | hk
    · exact hO3.block _ h2.lt (by simpa using hgp)
    · exact hO3.block _ h2.ltL (by have := H.out.ltL; have := HG.out; simp; omega)
    · exact hO3.block _ (h2.ltC k hk) (by have := H.out.ltC k hk; have := HG.out; simp; omega))
  have k1 := h3.c1
  clear hg1 h1
  go_wp2_with fail
  refine (clone_any (.slice co cn cc) D.W.length _ W3 h3.cache (by omega) (one_ents _)).mono ?_
  rintro e W4 ⟨v2, rfl, ho4, hB4, hf4⟩
  obtain ⟨vo, vn, vc, hv2⟩ := own_form ho4
  have hlt3 : g < W3.heap.size := (Array.getElem?_eq_some_iff.1 hg3).1
  have hg4 : W4.heap[g]? = some (.cells #[.slice (some ⟨lb2, 0, none⟩) D.L.length lcap2, .slice co cn cc, .int .i64 D.fuse, .bool D.dead, .int .i64 D.calls] 61 (0, 0)) := (hB4.block g hlt3).trans hg3
  have c1 : W4.cell? ⟨g, 1, none⟩ = some (.slice co cn cc) := by rw [cell_of_row _ _ _ _ _ _ hg4]; rfl
  have f1 : W4.frozen? ⟨g, 1, none⟩ = false := frozen_of_row _ _ _ _ _ hg4
  have hl3 : lb2 < W3.heap.size := (ho3.lt lb2 rfl).2
  have hw2 : W1.heap.size ≤ W3.heap.size := Nat.le_trans hB2.size hO3.size
  have hB : Below g w (W4.setCell ⟨g, 1, none⟩ v2) := by
    have b1 : Below g w W2 := hB1.trans (hB2.mono (by have := HG.out; have := hB1.size; omega))
    have b2 : Below g w W3 := b1.trans (hO3.below (by have := HG.out; omega) (by simp))
    have b3 : Below g w W4 := b2.trans (hB4.mono (by omega))
    exact b3.setCell (Nat.le_refl _) _
  have hn1 : v2.ownBlock ≠ some g := fun e => by have := hf4 g e; omega
  have hn2 : v2.ownBlock ≠ some lb2 := fun e => by have := hf4 lb2 e; omega
  have hglb : g ≠ lb2 := by omega
  have hD : DevIs (W4.setCell ⟨g, 1, none⟩ v2) g ([g, lb2] ++ v2.ownBlock.toList) D lb2 lcap2 v2 := by
    refine ⟨h3.wf, heap_setCell_same _ _ _ _ _ _ hg4, ?_, ?_, hglb, hn1, hn2, by simp, by simp, fun k hk => by simp [hk], ?_⟩
    · exact owns_of_block ho3 (fun k hk => by
        obtain rfl : lb2 = k := by simpa [Value.ownBlock] using hk
        rw [heap_setCell_other _ _ _ _ (fun e => hglb e.symm)]
        exact hB4.block _ hl3)
    · exact owns_of_block ho4 (fun k hk => heap_setCell_other _ _ _ _ (fun e => hn1 (by rw [hk]; exact congrArg some e)))
    · intro k hk
      have hs : (W4.setCell ⟨g, 1, none⟩ v2).heap.size = W4.heap.size := by simp [World.setCell]
      rw [hs]
      rcases List.mem_append.1 hk with hk | hk
      · rcases (by simpa using hk : k = g ∨ k = lb2) with rfl | rfl
        · have := hB4.size; omega
        · have := hB4.size; omega
      · exact (ho4.lt k (by simpa using hk)).2
  have hfq : ∀ k ∈ [g, lb2] ++ v2.ownBlock.toList, g ≤ k := fun k hk => by
    rcases List.mem_append.1 hk with hk | hk
    · rcases (by simpa using hk : k = g ∨ k = lb2) with rfl | rfl
      · exact Nat.le_refl _
      · have := hB1.size; have := HG.out; omega
    · have := hf4 k (by simpa using hk); omega
  have HD := hide hD
  have HQ := hide hfq
  clear hD hfq hW3 c0 f0 k1 h3 h2 ho3 ho2 hO3 hg3 hg2 hf2 hf4 ho4 hn1 hn2
  rw [hv2] at HD HQ hB ⊢
  clear hv2
  go_wp2_with fail
  go_ret
  rw [HG.out]
  exact ⟨g, _, rfl, ⟨_, _, _, HD.out⟩, HQ.out, hB⟩
end Go.Proofs.Ytohhcgcifceklaa
