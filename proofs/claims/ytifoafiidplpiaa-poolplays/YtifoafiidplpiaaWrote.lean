/- What Write does where all is well: the write lies in the cache behind the others. -/
import Derived.Test.YtifoafiidplpiaaApp
namespace Go.Proofs.Ytifoafiidplpiaa
open Go.RowKit
set_option linter.unusedVariables false
set_option linter.unusedSimpArgs false

/-- From ⟨q, o⟩ on lie the bytes bs. -/
def SrcAt (w : World) (q o : Nat) (bs : List UInt8) : Prop := q < w.heap.size ∧ ∀ j u, (secCells bs)[j]? = some u → w.cell? ((⟨q, o, none⟩ : Addr).add j) = some u
theorem SrcAt.of {w w' : World} {q o : Nat} {bs : List UInt8} (h : SrcAt w q o bs) (hs : w.heap.size ≤ w'.heap.size) (hb : w'.heap[q]? = w.heap[q]?) : SrcAt w' q o bs :=
  ⟨Nat.lt_of_lt_of_le h.1 hs, fun j u hu => by
    have h1 := h.2 j u hu
    rw [Addr.add_mid] at h1 ⊢
    exact (World.cell?_of_block (a := ⟨q, o + j, none⟩) hb).trans h1⟩
theorem SrcAt.block {w : World} {q : Nat} {bs : List UInt8} {t : TypeId} {fr : Nat × Nat} (h : w.heap[q]? = some (.cells (secCells bs).toArray t fr)) : SrcAt w q 0 bs :=
  ⟨(Array.getElem?_eq_some_iff.1 h).1, src_of_block h⟩
def Dv.wrote (D : Dv) (i : Nat) (bs : List UInt8) : Dv := { D.burnt with calls := wrap64 (D.calls + 1), W := D.W ++ [(i, bs)] }

theorem Try.built116 (i : Nat) : Try.prog.built 116 [(0, .int .i64 (i : Int))] = some (entOf (i, zeros)).toArray := by kernel_rfl
theorem wpList_build_is {P : Program} {ops : Array Oper} {rest : List Oper} {o : Oper} {a : Act} {w : World} {Q : Exit → Act → World → Prop} (hg : o.guard = none) (t : TypeId) (parts : Array (Nat × Operand)) (ho : o.op = .build t parts)
    (cells : Array Value) (hf : P.built t (parts.map fun (i, x) => (i, a.eval x)).toList = some cells)
    (h : wpList P ops Q rest (a.put o.dst (.agg cells)) w) : wpList P ops Q (o :: rest) a w :=
  wpList_build hg t parts ho (by rw [hf]; rfl) (by rw [hf]; exact h)

theorem wrote_is {w5 w6 : World} {p lb lcap : Nat} {fp : List Nat} {D : Dv} {cv v' : Value} {i : Nat} {bs : List UInt8} (h : DevIs w5 p fp D lb lcap cv) (hi : i < D.L.length) (hbs : bs.length = 128)
    (ho : w6.ownsRow 0 116 129 v' (D.W.length + 1) (entCells D.W ++ entOf (i, bs))) (hg : w5.grownBy w6 cv.ownBlock) (hfr : ∀ k, v'.ownBlock = some k → cv.ownBlock = some k ∨ w5.heap.size ≤ k) :
    DevIs (w6.setCell ⟨p, 1, none⟩ v') p (fp ++ v'.ownBlock.toList) { D with W := D.W ++ [(i, bs)] } lb lcap v' ∧ Off fp w5 (w6.setCell ⟨p, 1, none⟩ v') ∧ ∀ k ∈ fp ++ v'.ownBlock.toList, k ∈ fp ∨ w5.heap.size ≤ k := by
  have hp6 : w6.heap[p]? = w5.heap[p]? := hg.block p h.lt (fun e => h.ne2 e.symm)
  have hl6 : w6.heap[lb]? = w5.heap[lb]? := hg.block lb h.ltL (fun e => h.ne3 e.symm)
  have n2 : v'.ownBlock ≠ some p := fun e => by
    rcases hfr p e with h1 | h1
    · exact h.ne2 h1
    · have := h.lt; omega
  have n3 : v'.ownBlock ≠ some lb := fun e => by
    rcases hfr lb e with h1 | h1
    · exact h.ne3 h1
    · have := h.ltL; omega
  have hh := heap_setCell_same w6 p 1 _ _ v' (hp6.trans h.head)
  refine ⟨⟨?_, hh, ?_, ?_, h.ne1, n2, n3, by simp [h.inP], by simp [h.inL], fun k hk => by simp [hk], ?_⟩, ?_, ?_⟩
  · refine ⟨h.wf.pos, h.wf.max, h.wf.sec, fun x hx => ?_, h.wf.lo, h.wf.hi⟩
    rcases List.mem_append.1 hx with hx | hx
    · exact h.wf.ent x hx
    · obtain rfl : x = (i, bs) := by simpa using hx
      exact ⟨hi, hbs⟩
  · exact owns_of_block h.row (fun k hk => by
      obtain rfl : lb = k := by simpa [Value.ownBlock] using hk
      rw [heap_setCell_other w6 _ lb v' (fun e => h.ne1 e.symm)]
      exact hl6)
  · have he : entCells (D.W ++ [(i, bs)]) = entCells D.W ++ entOf (i, bs) := by simp [entCells]
    rw [he]
    show World.ownsRow _ 0 116 129 v' (D.W ++ [(i, bs)]).length _
    rw [List.length_append, List.length_singleton]
    exact owns_of_block ho (fun k hk => heap_setCell_other w6 _ k v' (fun e => n2 (by rw [hk]; exact congrArg some e)))
  · intro k hk
    have hs : (w6.setCell ⟨p, 1, none⟩ v').heap.size = w6.heap.size := by simp [World.setCell]
    rw [hs]
    rcases List.mem_append.1 hk with hk | hk
    · exact Nat.lt_of_lt_of_le (h.lim k hk) hg.size
    · exact (ho.lt k (by simpa using hk)).2
  · exact ((Off.refl fp w5).grown hg (fun k hk => .inl (h.inC k hk))).setCell _ _ (.inl h.inP)
  · intro k hk
    rcases List.mem_append.1 hk with hk | hk
    · exact .inl hk
    · rcases hfr k (by simpa using hk) with h1 | h1
      · exact .inl (h.inC k h1)
      · exact .inr h1
theorem own_one {w : World} {e : TypeId} {size n : Nat} {v : Value} {xs : List Value} (h : w.ownsRow 0 e size v n xs) : v.oneCell' = true := by
  rcases h.2 with ⟨rfl, _⟩ | ⟨g, cap, cur, rfl, _⟩ <;> rfl
theorem own_form {w : World} {e : TypeId} {size n : Nat} {v : Value} {xs : List Value} (h : w.ownsRow 0 e size v n xs) : ∃ ao m c, v = .slice ao m c := by
  rcases h.2 with ⟨rfl, _⟩ | ⟨g, cap, cur, rfl, _⟩
  · exact ⟨_, _, _, rfl⟩
  · exact ⟨_, _, _, rfl⟩
theorem run_store69 (w : World) (p : Nat) (u : Value) (ao : Option Addr) (m c : Nat) (h : w.cell? ⟨p, 1, none⟩ = some u) (hf : w.frozen? ⟨p, 1, none⟩ = false) :
    (Instr.storeAt 69 (.pointer (some ⟨p, 1, none⟩)) (.slice ao m c)).run Try.prog w = .ok () (w.setCell ⟨p, 1, none⟩ (.slice ao m c)) := by
  simp [go_sem, h, hf]

set_option maxHeartbeats 1000000 in
set_option maxRecDepth 100000 in
theorem write_ok (p i q o c : Nat) (bs : List UInt8) (w : World) (fp : List Nat) (D : Dv) (h : DevAt w p fp D) (hd : D.dead = false) (hi : i < D.L.length) (hf : D.fuse ≠ 0) (hm : D.W.length < 1000000)
    (hbs : bs.length = 128) (hq : SrcAt w q o bs) (hqn : q ∉ fp) :
    Calls Try.prog 67 #[.pointer (some ⟨p, 0, none⟩), .int .i64 (i : Int), .slice (some ⟨q, o, none⟩) 128 c] w fun e w' => e = .returned (.int .i64 0) ∧
      ∃ fp', DevAt w' p fp' (D.wrote i bs) ∧ Off fp w w' ∧ ∀ k ∈ fp', k ∈ fp ∨ w.heap.size ≤ k := by
  obtain ⟨lb, lcap, cv, h⟩ := h
  have k3 := h.c3
  rw [hd] at k3
  have HN := hide (has_yes p i w _ _ _ h.c0 (by omega) (by omega))
  have HB := hide (burn_ok p w fp D lb lcap cv h hf)
  have hn : ((128 : Int) != 128) = false := rfl
  have HF := hide hf
  have HBS := hide hbs
  have HQ := hide hq
  have hqs : q < w.heap.size := hq.1
  have hinP := h.inP
  clear hd hf hbs hq
  go_enter Try.func67, Try.ntmps67
  go_wp2_with (first | (go_at_call 53; refine HN.out.mono ?_; rintro e w' ⟨rfl, hw⟩; have hw := hw.symm; subst hw) | fail)
  refine HB.out.mono ?_
  rintro e w1 ⟨rfl, h1, ho1⟩
  have hO1 : Off fp w w1 := ho1.mono (by simpa using hinP)
  clear HN HB k3 ho1
  have k3 := h1.c3
  have k4 := h1.c4
  have f4 := h1.fz 4
  obtain ⟨W2, hW2⟩ : ∃ W2, w1.setCell ⟨p, 4, none⟩ (.int .i64 (wrap64 (D.burnt.calls + 1))) = W2 := ⟨_, rfl⟩
  have hwf2 : Dv.wf { D.burnt with calls := wrap64 (D.calls + 1) } := ⟨h1.wf.pos, h1.wf.max, h1.wf.sec, h1.wf.ent, h1.wf.lo, h1.wf.hi⟩
  have h2 : DevIs W2 p fp { D.burnt with calls := wrap64 (D.calls + 1) } lb lcap cv := by rw [← hW2]; exact h1.heads 4 _ _ rfl rfl hwf2 rfl
  have hO2 : Off fp w W2 := by rw [← hW2]; exact hO1.setCell _ _ (.inl hinP)
  have HQ2 : Hid (SrcAt W2 q o bs) := HQ.out.of hO2.size (hO2.block q hqs hqn)
  have hE : (entOf (i, zeros)).toArray.size = 129 := by simp [entOf, length_secCells, zeros]
  have HLB : Hid ((secCells bs).length = 128) := by show _ = _; rw [length_secCells]; exact HBS.out
  have FX : Hid (((W2.alloc (.cells zeroEnt 116)).setRow W2.heap.size (entOf (i, zeros)).toArray).heap[W2.heap.size]? = some (.cells (entOf (i, zeros)).toArray 116 (0, 0))) := setRow_heap _ _ _ _ _ _ (heap_alloc_new _ _)
  have FQ : Hid (SrcAt ((W2.alloc (.cells zeroEnt 116)).setRow W2.heap.size (entOf (i, zeros)).toArray) q o bs) := by
    have hql : q < W2.heap.size := HQ2.out.1
    refine HQ2.out.of ?_ ?_
    · simp [World.setRow]
    · rw [setRow_other _ _ _ _ (by omega), Below.heap_alloc _ _ _ hql]
  have z116 := Try.zero116
  have HZ : Hid (zeroEnt.size = (entOf (i, zeros)).toArray.size) := (size_ent 0 zeros length_zeros).trans hE.symm
  have HE := hide hE
  clear hE h1
  go_wp2_with (first
    | (refine wpList_build_is rfl 116 _ rfl (entOf (i, zeros)).toArray (Try.built116 i) ?_)
    | (refine wpList_store_row rfl 116 _ _ rfl W2.heap.size (entOf (i, zeros)).toArray rfl rfl 116 zeroEnt (heap_alloc_new _ _) (Try.size116' HE.out) HZ.out (all_oneCell_toArray (one_entOf _)) ?_)
    | (refine wpList_copy_own rfl _ _ 37 37 rfl 5 Try.underlying37 (by kernel_rfl) W2.heap.size 1 128 128 ⟨q, o, none⟩ 128 c rfl rfl (entOf (i, zeros)).toArray 116 FX.out (secCells bs) HLB.out FQ.out.2 (by rw [HLB.out, HE.out]; omega) (one_secCells _) ?_))
  obtain ⟨W4, hW4⟩ : ∃ W4, ((W2.alloc (.cells zeroEnt 116)).setRow W2.heap.size (entOf (i, zeros)).toArray).setRow W2.heap.size (List.take 1 (entOf (i, zeros)) ++ (secCells bs ++ List.drop (1 + (secCells bs).length) (entOf (i, zeros)))).toArray = W4 := ⟨_, rfl⟩
  rw [hW4]
  have hG : W4.heap[W2.heap.size]? = some (.cells (entOf (i, bs)).toArray 116 (0, 0)) := by
    rw [← hW4, setRow_heap _ _ _ _ _ _ FX.out]
    congr 2
    rw [HLB.out, List.drop_of_length_le (by have := HE.out; simp at this; omega)]
    simp [entOf]
  have hB4 : Below W2.heap.size W2 W4 := by
    rw [← hW4]
    exact below_setRow (below_setRow ((Below.refl _ _).alloc (Nat.le_refl _) _) (Nat.le_refl _) _) (Nat.le_refl _) _
  have h4 := h2.below hB4
  have hO4 : Off fp w W4 := hO2.trans (Off.of_below hB4 []) (by simp)
  have hgs : W2.heap.size < W4.heap.size := (Array.getElem?_eq_some_iff.1 hG).1
  have hws : w.heap.size ≤ W2.heap.size := hO2.size
  have hgp : W2.heap.size ≠ p := fun e => by have := h2.lt; omega
  generalize W2.heap.size = g at *
  clear hW4 hB4 h2 hO2 hW2 HQ2 FX FQ z116 HZ HE hwf2 k3 k4 f4 hO1
  have k1 := h4.c1
  have f1 := h4.fz 1
  have HR : Hid (W4.rangeAt g 0 (entOf (i, bs))) := fun j v hv => by rw [Nat.zero_add, cell_of_row _ _ _ _ _ _ hG]; simpa using hv
  have HE : Hid ((entOf (i, bs)).length = 129) := by show _ = _; simp [entOf, length_secCells, HBS.out]
  simp only [Act.put, List.setIfInBounds_toArray, List.set_cons_zero, List.set_cons_succ]
  refine wp_region_held_drew (S := fun _ => True) (by kernel_rfl) trivial (fun hH => ?_)
  refine take_to 0 37 (.pointer (some ⟨p, 0, none⟩)) rfl (by kernel_rfl) (by kernel_rfl) (by kernel_rfl) (fun _ _ _ h => h) rfl (by rfl) (fun w _ => by rfl) hH ?_
  simp only [Act.put, List.setIfInBounds_toArray, List.set_cons_zero, List.set_cons_succ]
  refine take_to 1 38 (.pointer (some ⟨p, 0, none⟩)) rfl (by kernel_rfl) (by kernel_rfl) (by kernel_rfl) (fun _ _ _ h => h) rfl (by rfl) (fun w _ => by rfl) hH ?_
  simp only [Act.put, List.setIfInBounds_toArray, List.set_cons_zero, List.set_cons_succ]
  refine take_to 2 39 (.pointer (some ⟨p, 0, none⟩)) rfl (by kernel_rfl) (by kernel_rfl) (by kernel_rfl) (fun _ _ _ h => h) rfl (by rfl) (fun w _ => by rfl) hH ?_
  simp only [Act.put, List.setIfInBounds_toArray, List.set_cons_zero, List.set_cons_succ]
  refine take_to 3 40 (.pointer (some ⟨p, 1, none⟩)) rfl (by kernel_rfl) (by kernel_rfl) (by kernel_rfl) (fun _ _ _ h => h) rfl (by rfl) (fun w _ => by kernel_rfl) hH ?_
  simp only [Act.put, List.setIfInBounds_toArray, List.set_cons_zero, List.set_cons_succ]
  have kd : W4.drew.cell? ⟨p, 1, none⟩ = some cv := k1
  have rd : W4.drew.rangeAt g 0 (entOf (i, bs)) := HR.out
  have L4 : ∀ W : World, W.cell? ⟨p, 1, none⟩ = some cv → (do pure (Next.value (← Instr.loadAt 69 (.pointer (some ⟨p, 1, none⟩)))) : Sem Next).run Try.prog W = .ok (.value cv) W := fun W hW => by
    rw [Sem.run_bind, run_load69 W p cv hW]; rfl
  have L5 : ∀ W : World, W.rangeAt g 0 (entOf (i, bs)) → (do pure (Next.value (← Instr.loadAt 116 (.pointer (some ⟨g, 0, none⟩)))) : Sem Next).run Try.prog W = .ok (.value (.agg (entOf (i, bs)).toArray)) W := fun W hW => by
    rw [Sem.run_bind, run_loadAt_mid W g 0 116 _ _ hW Try.underlying116 rfl (Try.size116 HE.out)]; rfl
  have L6 : ∀ W : World, (do pure (Next.value (← Instr.buildSlice 69 1 #[(0, .agg (entOf (i, bs)).toArray)])) : Sem Next).run Try.prog W = .ok (.value (.slice (some ⟨W.heap.size, 0, none⟩) 1 1)) (W.alloc (.cells (entOf (i, bs)).toArray 116)) := fun W => by
    rw [Sem.run_bind, Try.buildEnt (entOf (i, bs)).toArray (by simpa using HE.out)]; rfl
  have kd6 : (W4.drew.alloc (.cells (entOf (i, bs)).toArray 116)).cell? ⟨p, 1, none⟩ = some cv := by
    rw [World.cell?_alloc_lt _ _ _ (by exact h4.lt)]; exact k1
  have hB5 : Below W4.heap.size W4 (W4.drew.alloc (.cells (entOf (i, bs)).toArray 116)) := ((Below.refl _ W4).drew).alloc (Nat.le_refl _) _
  have h5 := h4.below hB5
  have hE5 : (W4.drew.alloc (.cells (entOf (i, bs)).toArray 116)).heap[W4.heap.size]? = some (.cells (entOf (i, bs)).toArray 116 (0, 0)) := heap_alloc_new W4.drew _
  have hO5 : Off fp w (W4.drew.alloc (.cells (entOf (i, bs)).toArray 116)) := hO4.trans (Off.of_below hB5 []) (by simp)
  have HZ5 : Hid ((Value.agg zeroEnt).cells.size = 129) := size_ent 0 zeros length_zeros
  refine wpAnyH_all (rs := [4, 5]) (by kernel_rfl) (by simp) ?_
  intro n hn
  rcases (by simpa using hn : n = 4 ∨ n = 5) with rfl | rfl
  refine op_to 41 cv _ rfl rfl (by rfl) (L4 _ kd) ⟨trivial, ?_⟩
  simp only [Act.put, List.setIfInBounds_toArray, List.set_cons_zero, List.set_cons_succ]
  refine step_to 5 42 (.agg (entOf (i, bs)).toArray) _ rfl (by kernel_rfl) rfl (by rfl) (L5 _ rd) trivial ?_
  simp only [Act.put, List.setIfInBounds_toArray, List.set_cons_zero, List.set_cons_succ]
  refine step_to 6 43 (.slice (some ⟨W4.heap.size, 0, none⟩) 1 1) (W4.drew.alloc (.cells (entOf (i, bs)).toArray 116)) rfl (by kernel_rfl) rfl (by rfl) (by rw [buildSlice_op _ _ 69 1 0 (.tmp 42) rfl _ rfl]; exact L6 _) trivial ?_
  simp only [Act.put, List.setIfInBounds_toArray, List.set_cons_zero, List.set_cons_succ]
  rotate_left
  refine op_to 42 (.agg (entOf (i, bs)).toArray) _ rfl rfl (by rfl) (L5 _ rd) ⟨trivial, ?_⟩
  simp only [Act.put, List.setIfInBounds_toArray, List.set_cons_zero, List.set_cons_succ]
  refine wpAnyH_all (rs := [4, 6]) (by kernel_rfl) (by simp) ?_
  intro n hn
  rcases (by simpa using hn : n = 4 ∨ n = 6) with rfl | rfl
  refine op_to 41 cv _ rfl rfl (by rfl) (L4 _ kd) ⟨trivial, ?_⟩
  simp only [Act.put, List.setIfInBounds_toArray, List.set_cons_zero, List.set_cons_succ]
  refine step_to 6 43 (.slice (some ⟨W4.heap.size, 0, none⟩) 1 1) (W4.drew.alloc (.cells (entOf (i, bs)).toArray 116)) rfl (by kernel_rfl) rfl (by rfl) (by rw [buildSlice_op _ _ 69 1 0 (.tmp 42) rfl _ rfl]; exact L6 _) trivial ?_
  simp only [Act.put, List.setIfInBounds_toArray, List.set_cons_zero, List.set_cons_succ]
  rotate_left
  refine op_to 43 (.slice (some ⟨W4.heap.size, 0, none⟩) 1 1) (W4.drew.alloc (.cells (entOf (i, bs)).toArray 116)) rfl rfl (by rfl) (by rw [buildSlice_op _ _ 69 1 0 (.tmp 42) rfl _ rfl]; exact L6 _) ⟨trivial, ?_⟩
  simp only [Act.put, List.setIfInBounds_toArray, List.set_cons_zero, List.set_cons_succ]
  refine step_to 4 41 cv _ rfl (by kernel_rfl) rfl (by rfl) (L4 _ kd6) trivial ?_
  simp only [Act.put, List.setIfInBounds_toArray, List.set_cons_zero, List.set_cons_succ]
  all_goals
    refine step_append_to 7 44 rfl (by kernel_rfl) rfl rfl (.tmp 41) (.tmp 43) 69 rfl 116 (.agg zeroEnt) 129 136 Try.underlying69 Try.info116 HZ5.out (by omega) cv D.W.length (entCells D.W) rfl h5.cache ⟨W4.heap.size, 0, none⟩ 1 1 (entOf (i, bs)) rfl HE.out (src_of_block hE5) (one_entOf _) (by simp only [maxLen]; omega) (by omega) (fun v' w6 ho hg hfr => ⟨trivial, ?_⟩)
    simp only [Act.put, List.setIfInBounds_toArray, List.set_cons_zero, List.set_cons_succ]
    refine step_to 8 45 (.pointer (some ⟨p, 0, none⟩)) w6 rfl (by kernel_rfl) rfl (by rfl) rfl trivial ?_
    simp only [Act.put, List.setIfInBounds_toArray, List.set_cons_zero, List.set_cons_succ]
    refine step_to 9 46 (.pointer (some ⟨p, 1, none⟩)) w6 rfl (by kernel_rfl) rfl (by rfl) (by kernel_rfl) trivial ?_
    simp only [Act.put, List.setIfInBounds_toArray, List.set_cons_zero, List.set_cons_succ]
    obtain ⟨ao, mv, cq, hv⟩ := own_form ho
    have hp6 := hg.block p h5.lt (fun e => h5.ne2 e.symm)
    have kp6 : w6.cell? ⟨p, 1, none⟩ = some cv := (World.cell?_of_block hp6).trans h5.c1
    have fp6 : w6.frozen? ⟨p, 1, none⟩ = false := (World.frozen?_of_block hp6).trans (h5.fz 1)
    obtain ⟨hD, hO, hF⟩ := wrote_is h5 hi HBS.out ho hg hfr
    have hst := run_store69 w6 p cv ao mv cq kp6 fp6
    rw [← hv] at hst
    refine step_store_to 10 _ rfl (by kernel_rfl) rfl (by rfl) 69 (.tmp 46) (.tmp 44) rfl _ _ rfl rfl hst trivial ?_
    refine wpAnyH_done (by kernel_rfl) ?_ _
    clear L4 L5 L6 kd rd kd6 hst kp6 fp6 hp6 hv
    go_wp2
    go_ret
    exact ⟨rfl, _, ⟨_, _, _, hD⟩, hO5.trans hO (fun k hk => .inl hk), fun k hk => (hF k hk).imp id (fun h => Nat.le_trans hO5.size h)⟩
end Go.Proofs.Ytifoafiidplpiaa
