/- What the document's Copy does. -/
import Derived.Test.YtohhcgcifceklaaRefCrash
namespace Go.Proofs.Ytohhcgcifceklaa
open Go.RowKit
set_option linter.unusedVariables false
set_option linter.unusedSimpArgs false

theorem build3_op (ρ : Operand → Value) (o : Oper) (t : TypeId) (j1 j2 j3 : Nat) (x1 x2 x3 : Operand) (ho : o.op = .build t #[(j1, x1), (j2, x2), (j3, x3)]) (v1 v2 v3 : Value) (h1 : ρ x1 = v1) (h2 : ρ x2 = v2) (h3 : ρ x3 = v3) :
    execOp ρ o = (do pure (Next.value (← Instr.build t #[(j1, v1), (j2, v2), (j3, v3)]))) := by
  unfold execOp
  simp [ho, h1, h2, h3]
theorem build49 (f : Int) (d : Bool) (c : Int) (w : World) : (Instr.build 49 #[(2, .int .i64 f), (3, .bool d), (4, .int .i64 c)]).run Try.prog w = .ok (.agg #[.slice none 0 0, .slice none 0 0, .int .i64 f, .bool d, .int .i64 c]) w := by kernel_rfl
/-- The rows of a device are laid anew. -/
theorem RefIs.setL {w5 w6 : World} {p : Nat} {fp : List Nat} {D : Dv} {lv cv v' : Value} {L2 : List (List UInt8)} (h : RefIs w5 p fp D lv cv) (ho : w6.ownsRow 0 9 1 v' L2.length (strRow L2)) (hg : w5.grownBy w6 lv.ownBlock) (hfr : ∀ k, v'.ownBlock = some k → lv.ownBlock = some k ∨ w5.heap.size ≤ k) :
    RefIs (w6.setCell ⟨p, 0, none⟩ v') p (fp ++ v'.ownBlock.toList) { D with L := L2 } v' cv ∧ Off fp w5 (w6.setCell ⟨p, 0, none⟩ v') ∧ ∀ k ∈ fp ++ v'.ownBlock.toList, k ∈ fp ∨ w5.heap.size ≤ k := by
  have hp6 : w6.heap[p]? = w5.heap[p]? := hg.block p h.lt (fun e => h.ne1 e.symm)
  have n1 : v'.ownBlock ≠ some p := fun e => by
    rcases hfr p e with h1 | h1
    · exact h.ne1 h1
    · have := h.lt; omega
  have n3 : ∀ k, v'.ownBlock = some k → cv.ownBlock ≠ some k := fun k hk hc => by
    rcases hfr k hk with h1 | h1
    · exact h.ne3 k h1 hc
    · have := (h.cache.lt k hc).2; omega
  have hh := heap_setCell_same w6 p 0 _ _ v' (hp6.trans h.head)
  refine ⟨⟨hh, ?_, ?_, n1, h.ne2, n3, by simp [h.inP], fun k hk => by simp [hk], fun k hk => by simp [h.inC k hk], ?_⟩, ?_, ?_⟩
  · exact owns_of_block ho (fun k hk => heap_setCell_other w6 _ k v' (fun e => n1 (by rw [hk]; exact congrArg some e)))
  · exact owns_of_block h.cache (fun k hk => by
      rw [heap_setCell_other w6 _ k v' (fun e => h.ne2 (by rw [hk]; exact congrArg some e))]
      exact hg.block k (h.cache.lt k hk).2 (fun e => h.ne3 k e.symm hk))
  · intro k hk
    have hs : (w6.setCell ⟨p, 0, none⟩ v').heap.size = w6.heap.size := by simp [World.setCell]
    rw [hs]
    rcases List.mem_append.1 hk with hk | hk
    · exact Nat.lt_of_lt_of_le (h.lim k hk) hg.size
    · exact (ho.lt k (by simpa using hk)).2
  · exact ((Off.refl fp w5).grown hg (fun k hk => .inl (h.inL k hk))).setCell _ _ (.inl h.inP)
  · intro k hk
    rcases List.mem_append.1 hk with hk | hk
    · exact .inl hk
    · rcases hfr k (by simpa using hk) with h1 | h1
      · exact .inl (h.inL k h1)
      · exact .inr h1
theorem RefIs.setW {w5 w6 : World} {p : Nat} {fp : List Nat} {D : Dv} {lv cv v' : Value} {W2 : List (Nat × List UInt8)} (h : RefIs w5 p fp D lv cv) (ho : w6.ownsRow 0 69 2 v' W2.length (strEnts W2)) (hg : w5.grownBy w6 cv.ownBlock) (hfr : ∀ k, v'.ownBlock = some k → cv.ownBlock = some k ∨ w5.heap.size ≤ k) :
    RefIs (w6.setCell ⟨p, 1, none⟩ v') p (fp ++ v'.ownBlock.toList) { D with W := W2 } lv v' ∧ Off fp w5 (w6.setCell ⟨p, 1, none⟩ v') ∧ ∀ k ∈ fp ++ v'.ownBlock.toList, k ∈ fp ∨ w5.heap.size ≤ k := by
  have hp6 : w6.heap[p]? = w5.heap[p]? := hg.block p h.lt (fun e => h.ne2 e.symm)
  have n2 : v'.ownBlock ≠ some p := fun e => by
    rcases hfr p e with h1 | h1
    · exact h.ne2 h1
    · have := h.lt; omega
  have n3 : ∀ k, lv.ownBlock = some k → v'.ownBlock ≠ some k := fun k hk hc => by
    rcases hfr k hc with h1 | h1
    · exact h.ne3 k hk h1
    · have := (h.row.lt k hk).2; omega
  have hh := heap_setCell_same w6 p 1 _ _ v' (hp6.trans h.head)
  refine ⟨⟨hh, ?_, ?_, h.ne1, n2, n3, by simp [h.inP], fun k hk => by simp [h.inL k hk], fun k hk => by simp [hk], ?_⟩, ?_, ?_⟩
  · exact owns_of_block h.row (fun k hk => by
      rw [heap_setCell_other w6 _ k v' (fun e => h.ne1 (by rw [hk]; exact congrArg some e))]
      exact hg.block k (h.row.lt k hk).2 (fun e => h.ne3 k hk e.symm))
  · exact owns_of_block ho (fun k hk => heap_setCell_other w6 _ k v' (fun e => n2 (by rw [hk]; exact congrArg some e)))
  · intro k hk
    have hs : (w6.setCell ⟨p, 1, none⟩ v').heap.size = w6.heap.size := by simp [World.setCell]
    rw [hs]
    rcases List.mem_append.1 hk with hk | hk
    · exact Nat.lt_of_lt_of_le (h.lim k hk) hg.size
    · exact (ho.lt k (by simpa using hk)).2
  · exact ((Off.refl fp w5).grown hg (fun k hk => .inl (h.inC k hk))).setCell _ _ (.inl h.inP)
  · intro k hk
    rcases List.mem_append.1 hk with hk | hk
    · exact .inl hk
    · rcases hfr k (by simpa using hk) with h1 | h1
      · exact .inl (h.inC k h1)
      · exact .inr h1
theorem run_append_nils (w : World) (ty : TypeId) : (Builtin.append_ #[47, 47] ty #[.slice none 0 0, .slice none 0 0]).run Try.prog w = .ok (.slice none 0 0) w := by kernel_rfl
theorem run_store46 (w : World) (p : Nat) (u : Value) (ao : Option Addr) (m c : Nat) (h : w.cell? ⟨p, 0, none⟩ = some u) (hf : w.frozen? ⟨p, 0, none⟩ = false) :
    (Instr.storeAt 46 (.pointer (some ⟨p, 0, none⟩)) (.slice ao m c)).run Try.prog w = .ok () (w.setCell ⟨p, 0, none⟩ (.slice ao m c)) := by
  simp [go_sem, h, hf]
theorem run_store47 (w : World) (p : Nat) (u : Value) (ao : Option Addr) (m c : Nat) (h : w.cell? ⟨p, 1, none⟩ = some u) (hf : w.frozen? ⟨p, 1, none⟩ = false) :
    (Instr.storeAt 47 (.pointer (some ⟨p, 1, none⟩)) (.slice ao m c)).run Try.prog w = .ok () (w.setCell ⟨p, 1, none⟩ (.slice ao m c)) := by
  simp [go_sem, h, hf]
theorem op_append_nils (ρ : Operand → Value) (o : Oper) (x y : Operand) (ho : o.op = Op.call { callee := Callee.builtin Builtin.append, args := #[x, y], argTypes := #[47, 47] }) (hx : ρ x = .slice none 0 0) (hy : ρ y = .slice none 0 0) {w : World} : (execOp ρ o).run Try.prog w = .ok (.value (.slice none 0 0)) w := by
  unfold execOp
  simp [ho, hx, hy, resolve, invoke, builtin, run_append_nils]

set_option maxHeartbeats 2000000 in
set_option maxRecDepth 100000 in
theorem rcopy_dev (p : Nat) (w : World) (fp : List Nat) (D : Dv) (h : RefAt w p fp D) (hpos : 1 ≤ D.L.length) (hmax : D.L.length ≤ 8192) (hm : D.W.length < 1000000) :
    Calls Try.prog 21 #[.pointer (some ⟨p, 0, none⟩)] w fun e w' => ∃ g fq, e = .returned (.pointer (some ⟨g, 0, none⟩)) ∧ RefAt w' g fq D ∧ (∀ k ∈ fq, w.heap.size ≤ k) ∧ Below w.heap.size w w' := by
  obtain ⟨lv, cv, h⟩ := h
  obtain ⟨lb, lc, hlv⟩ := h.formL hpos
  subst hlv
  go_enter Try.func21, Try.ntmps21
  go_wp2_with fail
  refine wp_region_held_drew (S := fun w' => w'.heap[p]? = w.heap[p]?) (by kernel_rfl) rfl (fun hH => ?_)
  refine take_to 0 4 (.pointer (some ⟨p, 0, none⟩)) rfl (by kernel_rfl) (by kernel_rfl) (by kernel_rfl) (fun _ _ _ h => h) rfl (by rfl) (fun w _ => by rfl) hH ?_
  simp only [Act.put, List.setIfInBounds_toArray, List.set_cons_zero, List.set_cons_succ]
  refine take_to 1 5 (.pointer (some ⟨p, 0, none⟩)) rfl (by kernel_rfl) (by kernel_rfl) (by kernel_rfl) (fun _ _ _ h => h) rfl (by rfl) (fun w _ => by rfl) hH ?_
  simp only [Act.put, List.setIfInBounds_toArray, List.set_cons_zero, List.set_cons_succ]
  refine take_to 2 6 (.pointer (some ⟨p, 2, none⟩)) rfl (by kernel_rfl) (by kernel_rfl) (by kernel_rfl) (fun _ _ _ h => h) rfl (by rfl) (fun w _ => by kernel_rfl) hH ?_
  simp only [Act.put, List.setIfInBounds_toArray, List.set_cons_zero, List.set_cons_succ]
  refine take_to 3 7 (.int .i64 D.fuse) rfl (by kernel_rfl) (by kernel_rfl) (by kernel_rfl) (fun _ _ _ h => h) rfl (by rfl) (fun w hw => op_load _ _ 3 (.tmp 6) rfl (.pointer (some ⟨p, 2, none⟩)) _ rfl (run_load3 w p 2 _ ((World.cell?_of_block hw).trans h.c2))) hH ?_
  simp only [Act.put, List.setIfInBounds_toArray, List.set_cons_zero, List.set_cons_succ]
  refine take_to 4 8 (.pointer (some ⟨p, 0, none⟩)) rfl (by kernel_rfl) (by kernel_rfl) (by kernel_rfl) (fun _ _ _ h => h) rfl (by rfl) (fun w _ => by rfl) hH ?_
  simp only [Act.put, List.setIfInBounds_toArray, List.set_cons_zero, List.set_cons_succ]
  refine take_to 5 9 (.pointer (some ⟨p, 0, none⟩)) rfl (by kernel_rfl) (by kernel_rfl) (by kernel_rfl) (fun _ _ _ h => h) rfl (by rfl) (fun w _ => by rfl) hH ?_
  simp only [Act.put, List.setIfInBounds_toArray, List.set_cons_zero, List.set_cons_succ]
  refine take_to 6 10 (.pointer (some ⟨p, 3, none⟩)) rfl (by kernel_rfl) (by kernel_rfl) (by kernel_rfl) (fun _ _ _ h => h) rfl (by rfl) (fun w _ => by kernel_rfl) hH ?_
  simp only [Act.put, List.setIfInBounds_toArray, List.set_cons_zero, List.set_cons_succ]
  refine take_to 7 11 (.bool D.dead) rfl (by kernel_rfl) (by kernel_rfl) (by kernel_rfl) (fun _ _ _ h => h) rfl (by rfl) (fun w hw => op_load _ _ 4 (.tmp 10) rfl (.pointer (some ⟨p, 3, none⟩)) _ rfl (run_load4 w p 3 _ ((World.cell?_of_block hw).trans h.c3))) hH ?_
  simp only [Act.put, List.setIfInBounds_toArray, List.set_cons_zero, List.set_cons_succ]
  refine take_to 8 12 (.pointer (some ⟨p, 0, none⟩)) rfl (by kernel_rfl) (by kernel_rfl) (by kernel_rfl) (fun _ _ _ h => h) rfl (by rfl) (fun w _ => by rfl) hH ?_
  simp only [Act.put, List.setIfInBounds_toArray, List.set_cons_zero, List.set_cons_succ]
  refine take_to 9 13 (.pointer (some ⟨p, 0, none⟩)) rfl (by kernel_rfl) (by kernel_rfl) (by kernel_rfl) (fun _ _ _ h => h) rfl (by rfl) (fun w _ => by rfl) hH ?_
  simp only [Act.put, List.setIfInBounds_toArray, List.set_cons_zero, List.set_cons_succ]
  refine take_to 10 14 (.pointer (some ⟨p, 4, none⟩)) rfl (by kernel_rfl) (by kernel_rfl) (by kernel_rfl) (fun _ _ _ h => h) rfl (by rfl) (fun w _ => by kernel_rfl) hH ?_
  simp only [Act.put, List.setIfInBounds_toArray, List.set_cons_zero, List.set_cons_succ]
  refine take_to 11 15 (.int .i64 D.calls) rfl (by kernel_rfl) (by kernel_rfl) (by kernel_rfl) (fun _ _ _ h => h) rfl (by rfl) (fun w hw => op_load _ _ 3 (.tmp 14) rfl (.pointer (some ⟨p, 4, none⟩)) _ rfl (run_load3 w p 4 _ ((World.cell?_of_block hw).trans h.c4))) hH ?_
  simp only [Act.put, List.setIfInBounds_toArray, List.set_cons_zero, List.set_cons_succ]
  refine take_to 12 16 (.agg #[.slice none 0 0, .slice none 0 0, .int .i64 D.fuse, .bool D.dead, .int .i64 D.calls]) rfl (by kernel_rfl) (by kernel_rfl) (by kernel_rfl) (fun _ _ _ h => h) rfl (by rfl) (fun w _ => by rw [build3_op _ _ 49 2 3 4 (.tmp 7) (.tmp 11) (.tmp 15) rfl (.int .i64 D.fuse) (.bool D.dead) (.int .i64 D.calls) rfl rfl rfl, Sem.run_bind, build49]; rfl) hH ?_
  simp only [Act.put, List.setIfInBounds_toArray, List.set_cons_zero, List.set_cons_succ]
  refine step_to 13 17 (.pointer (some ⟨w.heap.size, 0, none⟩)) (w.drew.alloc (.cells #[.slice none 0 0, .slice none 0 0, .int .i64 D.fuse, .bool D.dead, .int .i64 D.calls] 49)) rfl (by kernel_rfl) rfl (by rfl) (by kernel_rfl) ?_ ?_
  · exact Below.heap_alloc w.drew _ p h.lt
  simp only [Act.put, List.setIfInBounds_toArray, List.set_cons_zero, List.set_cons_succ]
  refine step_to 14 3 (.pointer (some ⟨w.heap.size, 0, none⟩)) (w.drew.alloc (.cells #[.slice none 0 0, .slice none 0 0, .int .i64 D.fuse, .bool D.dead, .int .i64 D.calls] 49)) rfl (by kernel_rfl) rfl (by rfl) rfl ?_ ?_
  · exact Below.heap_alloc w.drew _ p h.lt
  simp only [Act.put, List.setIfInBounds_toArray, List.set_cons_zero, List.set_cons_succ]
  refine wpAnyH_done (by kernel_rfl) ?_ _
  generalize hW1 : w.drew.alloc _ = W1
  have hg1 : W1.heap[w.heap.size]? = some (.cells #[.slice none 0 0, .slice none 0 0, .int .i64 D.fuse, .bool D.dead, .int .i64 D.calls] 49 (0, 0)) := by rw [← hW1]; exact heap_alloc_new w.drew _
  have hB1 : Below w.heap.size w W1 := by rw [← hW1]; exact ((Below.refl _ w).drew).alloc (Nat.le_refl _) _
  have hd := h.below hB1
  have hgp : p ≠ w.heap.size := Nat.ne_of_lt h.lt
  clear hW1 hH
  obtain ⟨g, hgg⟩ : ∃ g, w.heap.size = g := ⟨_, rfl⟩
  have HG := hide hgg
  rw [hgg] at hg1 hgp ⊢
  clear hgg
  have hc : RefIs W1 g [g] ⟨[], [], D.fuse, D.dead, D.calls⟩ (.slice none 0 0) (.slice none 0 0) :=
    ⟨hg1, World.ownsRow_nil _ _ _ _, World.ownsRow_nil _ _ _ _, by simp [Value.ownBlock], by simp [Value.ownBlock], fun k hk => by simp [Value.ownBlock] at hk, by simp, fun k hk => by simp [Value.ownBlock] at hk, fun k hk => by simp [Value.ownBlock] at hk, fun k hk => by
      obtain rfl : k = g := by simpa using hk
      exact (Array.getElem?_eq_some_iff.1 hg1).1⟩
  clear hg1
  go_wp2_with fail
  refine wp_region_held_drew (S := fun w' => w'.heap[p]? = W1.heap[p]?) (by kernel_rfl) rfl (fun hH => ?_)
  refine take_to 0 18 (.pointer (some ⟨g, 0, none⟩)) rfl (by kernel_rfl) (by kernel_rfl) (by kernel_rfl) (fun _ _ _ h => h) rfl (by rfl) (fun w _ => by rfl) hH ?_
  simp only [Act.put, List.setIfInBounds_toArray, List.set_cons_zero, List.set_cons_succ]
  refine take_to 1 19 (.pointer (some ⟨g, 0, none⟩)) rfl (by kernel_rfl) (by kernel_rfl) (by kernel_rfl) (fun _ _ _ h => h) rfl (by rfl) (fun w _ => by rfl) hH ?_
  simp only [Act.put, List.setIfInBounds_toArray, List.set_cons_zero, List.set_cons_succ]
  refine take_to 2 20 (.pointer (some ⟨g, 0, none⟩)) rfl (by kernel_rfl) (by kernel_rfl) (by kernel_rfl) (fun _ _ _ h => h) rfl (by rfl) (fun w _ => by rfl) hH ?_
  simp only [Act.put, List.setIfInBounds_toArray, List.set_cons_zero, List.set_cons_succ]
  refine take_to 3 21 (.pointer (some ⟨g, 0, none⟩)) rfl (by kernel_rfl) (by kernel_rfl) (by kernel_rfl) (fun _ _ _ h => h) rfl (by rfl) (fun w _ => by kernel_rfl) hH ?_
  simp only [Act.put, List.setIfInBounds_toArray, List.set_cons_zero, List.set_cons_succ]
  refine take_to 5 23 (.pointer (some ⟨p, 0, none⟩)) rfl (by kernel_rfl) (by kernel_rfl) (by kernel_rfl) (fun _ _ _ h => h) rfl (by rfl) (fun w _ => by rfl) hH ?_
  simp only [Act.put, List.setIfInBounds_toArray, List.set_cons_zero, List.set_cons_succ]
  refine take_to 6 24 (.pointer (some ⟨p, 0, none⟩)) rfl (by kernel_rfl) (by kernel_rfl) (by kernel_rfl) (fun _ _ _ h => h) rfl (by rfl) (fun w _ => by rfl) hH ?_
  simp only [Act.put, List.setIfInBounds_toArray, List.set_cons_zero, List.set_cons_succ]
  refine take_to 7 25 (.pointer (some ⟨p, 0, none⟩)) rfl (by kernel_rfl) (by kernel_rfl) (by kernel_rfl) (fun _ _ _ h => h) rfl (by rfl) (fun w _ => by kernel_rfl) hH ?_
  simp only [Act.put, List.setIfInBounds_toArray, List.set_cons_zero, List.set_cons_succ]
  refine take_to 8 26 (.slice (some ⟨lb, 0, none⟩) D.L.length lc) rfl (by kernel_rfl) (by kernel_rfl) (by kernel_rfl) (fun _ _ _ h => h) rfl (by rfl) (fun w hw => op_load _ _ 46 (.tmp 25) rfl (.pointer (some ⟨p, 0, none⟩)) _ rfl (run_load46 w p _ ((World.cell?_of_block hw).trans hd.c0))) hH ?_
  simp only [Act.put, List.setIfInBounds_toArray, List.set_cons_zero, List.set_cons_succ]
  refine step_to 4 22 (.slice none 0 0) W1.drew rfl (by kernel_rfl) rfl (by rfl) (op_load _ _ 46 (.tmp 21) rfl (.pointer (some ⟨g, 0, none⟩)) _ rfl (run_load46 W1.drew g _ hc.c0)) rfl ?_
  simp only [Act.put, List.setIfInBounds_toArray, List.set_cons_zero, List.set_cons_succ]
  refine step_append_to 9 27 rfl (by kernel_rfl) rfl rfl (.tmp 22) (.tmp 26) 46 rfl 9 (.string ⟨#[]⟩) 1 16 Try.underlying46 Try.info9 rfl (by omega) (.slice none 0 0) 0 [] rfl (World.ownsRow_nil _ _ _ _) ⟨lb, 0, none⟩ D.L.length lc (strRow D.L) rfl (by simp [strRow]) (hd.row.cells rfl) (one_strRow _) (by simp only [maxLen]; omega) (by omega) (fun v' w6 r1 r2 r3 => ⟨r2.block p hd.lt (by simp [Value.ownBlock]), ?_⟩)
  simp only [Act.put, List.setIfInBounds_toArray, List.set_cons_zero, List.set_cons_succ]
  obtain ⟨vo, vn, vc, hv⟩ := own_form r1
  subst hv
  rw [Nat.zero_add, List.nil_append] at r1
  have hcd := hc.below ((Below.refl _ W1).drew)
  have hb6 := r2.block g hcd.lt (by simp [Value.ownBlock])
  have c6 : w6.cell? ⟨g, 0, none⟩ = some (.slice none 0 0) := (World.cell?_of_block hb6).trans hcd.c0
  have f6 : w6.frozen? ⟨g, 0, none⟩ = false := (World.frozen?_of_block (a := ⟨g, 0, none⟩) hb6).trans (hcd.fz 0)
  refine step_to 10 28 (.pointer (some ⟨g, 0, none⟩)) w6 rfl (by kernel_rfl) rfl (by rfl) rfl (r2.block p hd.lt (by simp [Value.ownBlock])) ?_
  simp only [Act.put, List.setIfInBounds_toArray, List.set_cons_zero, List.set_cons_succ]
  refine step_to 11 29 (.pointer (some ⟨g, 0, none⟩)) w6 rfl (by kernel_rfl) rfl (by rfl) (by kernel_rfl) (r2.block p hd.lt (by simp [Value.ownBlock])) ?_
  simp only [Act.put, List.setIfInBounds_toArray, List.set_cons_zero, List.set_cons_succ]
  refine step_store_to 12 _ rfl (by kernel_rfl) rfl (by rfl) 46 (.tmp 29) (.tmp 27) rfl _ _ rfl rfl (run_store46 w6 g _ vo vn vc c6 f6) ?_ ?_
  · exact (heap_setCell_other w6 _ p _ hgp).trans (r2.block p hd.lt (by simp [Value.ownBlock]))
  refine wpAnyH_done (by kernel_rfl) ?_ _
  obtain ⟨hc2, hO2, hF2⟩ := RefIs.setL (by exact hcd) (L2 := D.L) r1 r2 r3
  have hBd : Off [g] W1 (w6.setCell ⟨g, 0, none⟩ (.slice vo vn vc)) := ((Off.refl [g] W1).drew).trans hO2 (fun k hk => .inl hk)
  have hfp : ∀ k ∈ fp, k ∉ [g] := fun k hk hm => by
    have := h.lim k hk
    have := HG.out
    obtain rfl : k = g := by simpa using hm
    omega
  have hd2 := hd.apart hBd hfp
  have hF3 : ∀ k ∈ [g] ++ (Value.slice vo vn vc).ownBlock.toList, w.heap.size ≤ k := fun k hk => by
    have := HG.out
    rcases hF2 k hk with h1 | h1
    · obtain rfl : k = g := by simpa using h1
      omega
    · exact Nat.le_trans hB1.size h1
  have hB2 : Below w.heap.size w (w6.setCell ⟨g, 0, none⟩ (.slice vo vn vc)) := hB1.trans (hBd.below hB1.size (fun k hk => by have := HG.out; simp at hk; omega))
  have HF3 := hide hF3
  clear hF3 hF2 hO2 hcd hc hd r1 r2 r3 c6 f6 hb6 hBd hB1 hH
  generalize w6.setCell ⟨g, 0, none⟩ (.slice vo vn vc) = W2 at *
  have hc := hc2
  have hd := hd2
  clear hc2 hd2
  generalize [g] ++ (Value.slice vo vn vc).ownBlock.toList = fg at *
  have hdis : ∀ k ∈ fp, k ∉ fg := fun k hk hm => by
    have := h.lim k hk
    have := HF3.out k hm
    omega
  have HDIS := hide hdis
  clear hdis
  rcases hd.formC with ⟨hcv, hWn⟩ | ⟨cb, cc, hcv⟩
  rotate_left
  · subst hcv
    go_wp2_with fail
    refine wp_region_held_drew (S := fun w' => w'.heap[p]? = W2.heap[p]?) (by kernel_rfl) rfl (fun hH => ?_)
    refine take_to 0 30 (.pointer (some ⟨g, 0, none⟩)) rfl (by kernel_rfl) (by kernel_rfl) (by kernel_rfl) (fun _ _ _ h => h) rfl (by rfl) (fun w _ => by rfl) hH ?_
    simp only [Act.put, List.setIfInBounds_toArray, List.set_cons_zero, List.set_cons_succ]
    refine take_to 1 31 (.pointer (some ⟨g, 0, none⟩)) rfl (by kernel_rfl) (by kernel_rfl) (by kernel_rfl) (fun _ _ _ h => h) rfl (by rfl) (fun w _ => by rfl) hH ?_
    simp only [Act.put, List.setIfInBounds_toArray, List.set_cons_zero, List.set_cons_succ]
    refine take_to 2 32 (.pointer (some ⟨g, 0, none⟩)) rfl (by kernel_rfl) (by kernel_rfl) (by kernel_rfl) (fun _ _ _ h => h) rfl (by rfl) (fun w _ => by rfl) hH ?_
    simp only [Act.put, List.setIfInBounds_toArray, List.set_cons_zero, List.set_cons_succ]
    refine take_to 3 33 (.pointer (some ⟨g, 1, none⟩)) rfl (by kernel_rfl) (by kernel_rfl) (by kernel_rfl) (fun _ _ _ h => h) rfl (by rfl) (fun w _ => by kernel_rfl) hH ?_
    simp only [Act.put, List.setIfInBounds_toArray, List.set_cons_zero, List.set_cons_succ]
    refine take_to 5 35 (.pointer (some ⟨p, 0, none⟩)) rfl (by kernel_rfl) (by kernel_rfl) (by kernel_rfl) (fun _ _ _ h => h) rfl (by rfl) (fun w _ => by rfl) hH ?_
    simp only [Act.put, List.setIfInBounds_toArray, List.set_cons_zero, List.set_cons_succ]
    refine take_to 6 36 (.pointer (some ⟨p, 0, none⟩)) rfl (by kernel_rfl) (by kernel_rfl) (by kernel_rfl) (fun _ _ _ h => h) rfl (by rfl) (fun w _ => by rfl) hH ?_
    simp only [Act.put, List.setIfInBounds_toArray, List.set_cons_zero, List.set_cons_succ]
    refine take_to 7 37 (.pointer (some ⟨p, 1, none⟩)) rfl (by kernel_rfl) (by kernel_rfl) (by kernel_rfl) (fun _ _ _ h => h) rfl (by rfl) (fun w _ => by kernel_rfl) hH ?_
    simp only [Act.put, List.setIfInBounds_toArray, List.set_cons_zero, List.set_cons_succ]
    refine take_to 8 38 (.slice (some ⟨cb, 0, none⟩) D.W.length cc) rfl (by kernel_rfl) (by kernel_rfl) (by kernel_rfl) (fun _ _ _ h => h) rfl (by rfl) (fun w hw => op_load _ _ 47 (.tmp 37) rfl (.pointer (some ⟨p, 1, none⟩)) _ rfl (run_load47 w p _ ((World.cell?_of_block hw).trans hd.c1))) hH ?_
    simp only [Act.put, List.setIfInBounds_toArray, List.set_cons_zero, List.set_cons_succ]
    refine step_to 4 34 (.slice none 0 0) W2.drew rfl (by kernel_rfl) rfl (by rfl) (op_load _ _ 47 (.tmp 33) rfl (.pointer (some ⟨g, 1, none⟩)) _ rfl (run_load47 W2.drew g _ hc.c1)) rfl ?_
    simp only [Act.put, List.setIfInBounds_toArray, List.set_cons_zero, List.set_cons_succ]
    refine step_append_to 9 39 rfl (by kernel_rfl) rfl rfl (.tmp 34) (.tmp 38) 47 rfl 69 (.agg #[.int .i64 0, .string ⟨#[]⟩]) 2 24 Try.underlying47 Try.info69 rfl (by omega) (.slice none 0 0) 0 [] rfl (World.ownsRow_nil _ _ _ _) ⟨cb, 0, none⟩ D.W.length cc (strEnts D.W) rfl (by unfold strEnts; rw [flat_length 2 _ (pairs_len _)]; simp) (hd.cache.cells rfl) (one_strEnts _) (by simp only [maxLen]; omega) (by omega) (fun v' w6 r1 r2 r3 => ⟨r2.block p hd.lt (by simp [Value.ownBlock]), ?_⟩)
    simp only [Act.put, List.setIfInBounds_toArray, List.set_cons_zero, List.set_cons_succ]
    obtain ⟨vo, vn, vc, hv⟩ := own_form r1
    subst hv
    rw [Nat.zero_add, List.nil_append] at r1
    have hcd := hc.below ((Below.refl _ W2).drew)
    have hb6 := r2.block g hcd.lt (by simp [Value.ownBlock])
    have c6 : w6.cell? ⟨g, 1, none⟩ = some (.slice none 0 0) := (World.cell?_of_block hb6).trans hcd.c1
    have f6 : w6.frozen? ⟨g, 1, none⟩ = false := (World.frozen?_of_block (a := ⟨g, 1, none⟩) hb6).trans (hcd.fz 1)
    refine step_to 10 40 (.pointer (some ⟨g, 0, none⟩)) w6 rfl (by kernel_rfl) rfl (by rfl) rfl (r2.block p hd.lt (by simp [Value.ownBlock])) ?_
    simp only [Act.put, List.setIfInBounds_toArray, List.set_cons_zero, List.set_cons_succ]
    refine step_to 11 41 (.pointer (some ⟨g, 1, none⟩)) w6 rfl (by kernel_rfl) rfl (by rfl) (by kernel_rfl) (r2.block p hd.lt (by simp [Value.ownBlock])) ?_
    simp only [Act.put, List.setIfInBounds_toArray, List.set_cons_zero, List.set_cons_succ]
    refine step_store_to 12 _ rfl (by kernel_rfl) rfl (by rfl) 47 (.tmp 41) (.tmp 39) rfl _ _ rfl rfl (run_store47 w6 g _ vo vn vc c6 f6) ?_ ?_
    · exact (heap_setCell_other w6 _ p _ hgp).trans (r2.block p hd.lt (by simp [Value.ownBlock]))
    refine wpAnyH_done (by kernel_rfl) ?_ _
    obtain ⟨hc2, hO2, hF2⟩ := RefIs.setW (by exact hcd) (W2 := D.W) r1 r2 r3
    have hB3 : Below w.heap.size w (w6.setCell ⟨g, 1, none⟩ (.slice vo vn vc)) := hB2.trans ((((Off.refl fg W2).drew).trans hO2 (fun k hk => .inl hk)).below hB2.size HF3.out)
    have hF4 : ∀ k ∈ fg ++ (Value.slice vo vn vc).ownBlock.toList, w.heap.size ≤ k := fun k hk => by
      rcases hF2 k hk with h1 | h1
      · exact HF3.out k h1
      · exact Nat.le_trans hB2.size h1
    clear hH
    go_wp2_with fail
    go_ret
    exact ⟨g, rfl, fg ++ (Value.slice vo vn vc).ownBlock.toList, ⟨_, _, hc2⟩, hF4, hB3⟩
  · subst hcv
    go_wp2_with fail
    refine wp_region_held_drew (S := fun w' => w'.heap[p]? = W2.heap[p]?) (by kernel_rfl) rfl (fun hH => ?_)
    refine take_to 0 30 (.pointer (some ⟨g, 0, none⟩)) rfl (by kernel_rfl) (by kernel_rfl) (by kernel_rfl) (fun _ _ _ h => h) rfl (by rfl) (fun w _ => by rfl) hH ?_
    simp only [Act.put, List.setIfInBounds_toArray, List.set_cons_zero, List.set_cons_succ]
    refine take_to 1 31 (.pointer (some ⟨g, 0, none⟩)) rfl (by kernel_rfl) (by kernel_rfl) (by kernel_rfl) (fun _ _ _ h => h) rfl (by rfl) (fun w _ => by rfl) hH ?_
    simp only [Act.put, List.setIfInBounds_toArray, List.set_cons_zero, List.set_cons_succ]
    refine take_to 2 32 (.pointer (some ⟨g, 0, none⟩)) rfl (by kernel_rfl) (by kernel_rfl) (by kernel_rfl) (fun _ _ _ h => h) rfl (by rfl) (fun w _ => by rfl) hH ?_
    simp only [Act.put, List.setIfInBounds_toArray, List.set_cons_zero, List.set_cons_succ]
    refine take_to 3 33 (.pointer (some ⟨g, 1, none⟩)) rfl (by kernel_rfl) (by kernel_rfl) (by kernel_rfl) (fun _ _ _ h => h) rfl (by rfl) (fun w _ => by kernel_rfl) hH ?_
    simp only [Act.put, List.setIfInBounds_toArray, List.set_cons_zero, List.set_cons_succ]
    refine take_to 5 35 (.pointer (some ⟨p, 0, none⟩)) rfl (by kernel_rfl) (by kernel_rfl) (by kernel_rfl) (fun _ _ _ h => h) rfl (by rfl) (fun w _ => by rfl) hH ?_
    simp only [Act.put, List.setIfInBounds_toArray, List.set_cons_zero, List.set_cons_succ]
    refine take_to 6 36 (.pointer (some ⟨p, 0, none⟩)) rfl (by kernel_rfl) (by kernel_rfl) (by kernel_rfl) (fun _ _ _ h => h) rfl (by rfl) (fun w _ => by rfl) hH ?_
    simp only [Act.put, List.setIfInBounds_toArray, List.set_cons_zero, List.set_cons_succ]
    refine take_to 7 37 (.pointer (some ⟨p, 1, none⟩)) rfl (by kernel_rfl) (by kernel_rfl) (by kernel_rfl) (fun _ _ _ h => h) rfl (by rfl) (fun w _ => by kernel_rfl) hH ?_
    simp only [Act.put, List.setIfInBounds_toArray, List.set_cons_zero, List.set_cons_succ]
    refine take_to 8 38 (.slice none 0 0) rfl (by kernel_rfl) (by kernel_rfl) (by kernel_rfl) (fun _ _ _ h => h) rfl (by rfl) (fun w hw => op_load _ _ 47 (.tmp 37) rfl (.pointer (some ⟨p, 1, none⟩)) _ rfl (run_load47 w p _ ((World.cell?_of_block hw).trans hd.c1))) hH ?_
    simp only [Act.put, List.setIfInBounds_toArray, List.set_cons_zero, List.set_cons_succ]
    refine step_to 4 34 (.slice none 0 0) W2.drew rfl (by kernel_rfl) rfl (by rfl) (op_load _ _ 47 (.tmp 33) rfl (.pointer (some ⟨g, 1, none⟩)) _ rfl (run_load47 W2.drew g _ hc.c1)) rfl ?_
    simp only [Act.put, List.setIfInBounds_toArray, List.set_cons_zero, List.set_cons_succ]
    refine step_to 9 39 (.slice none 0 0) W2.drew rfl (by kernel_rfl) rfl (by rfl) (op_append_nils _ _ (.tmp 34) (.tmp 38) rfl rfl rfl) rfl ?_
    simp only [Act.put, List.setIfInBounds_toArray, List.set_cons_zero, List.set_cons_succ]
    refine step_to 10 40 (.pointer (some ⟨g, 0, none⟩)) W2.drew rfl (by kernel_rfl) rfl (by rfl) rfl rfl ?_
    simp only [Act.put, List.setIfInBounds_toArray, List.set_cons_zero, List.set_cons_succ]
    refine step_to 11 41 (.pointer (some ⟨g, 1, none⟩)) W2.drew rfl (by kernel_rfl) rfl (by rfl) (by kernel_rfl) rfl ?_
    simp only [Act.put, List.setIfInBounds_toArray, List.set_cons_zero, List.set_cons_succ]
    have hcd := hc.below ((Below.refl _ W2).drew)
    refine step_store_to 12 _ rfl (by kernel_rfl) rfl (by rfl) 47 (.tmp 41) (.tmp 39) rfl _ _ rfl rfl (run_store47 W2.drew g _ none 0 0 hcd.c1 (hcd.fz 1)) ?_ ?_
    · exact heap_setCell_other W2.drew _ p _ hgp
    refine wpAnyH_done (by kernel_rfl) ?_ _
    have hc2 := hcd.drop
    have hB3 : Below w.heap.size w (W2.drew.setCell ⟨g, 1, none⟩ (.slice none 0 0)) := hB2.drew.setCell (by have := HG.out; show w.heap.size ≤ g; omega) _
    have hDe : RefAt (W2.drew.setCell ⟨g, 1, none⟩ (.slice none 0 0)) g fg D := by
      have : D = { D with W := [] } := by rw [← hWn]
      rw [this]
      exact ⟨_, _, hc2⟩
    have HDe := hide hDe
    clear hDe hc2 hH hWn
    go_wp2_with fail
    go_ret
    exact ⟨g, _, rfl, HDe.out, HF3.out, hB3⟩
end Go.Proofs.Ytohhcgcifceklaa
