/- A part of it: App Wrote Lay. -/
import Derived.Test.YteeembildppgmaaGreatM0
import Derived.Test.YteeembildppgmaaGreatM1
import Derived.ArgAppend
import Derived.Deep.RegionHeld
namespace Go.Proofs.YteeembildppgmaaGreat
open Go.RowKit
set_option linter.unusedVariables false
set_option linter.unusedSimpArgs false
theorem owns_zero {w : World} {base : Nat} {e : TypeId} {size : Nat} {v : Value} {n : Nat} {xs : List Value} (h : w.ownsRow base e size v n xs) : w.ownsRow 0 e size v n xs := by
 refine ⟨h.1, ?_⟩
 rcases h.2 with hn | ⟨g, cap, cur, hv, _, rest⟩
 · exact .inl hn
 · exact .inr ⟨g, cap, cur, hv, Nat.zero_le _, rest⟩

theorem run_append_owned {P : Program} (w : World) (t ty e : TypeId) (i : TypeInfo) (z : Value) (size bytes : Nat) (ht : P.underlying t = some (.slice e)) (hi : P.info? e = some i) (hz : i.zero = some z)
 (hsize : i.size = size) (hby : i.bytes = bytes) (hzs : z.cells.size = size) (hsz : 0 < size)
 (v : Value) (n : Nat) (xs : List Value) (hown : w.ownsRow 0 e size v n xs)
 (a : Addr) (m c : Nat) (news : List Value) (hl : news.length = m * size) (hnews : ∀ j u, news[j]? = some u → w.cell? (a.add j) = some u) (h1 : ∀ u ∈ news, u.oneCell' = true)
 (h63 : n + m ≤ maxLen) (hbytes : (n + m) * bytes ≤ 140737488355328) :
 ∃ v' w', (Builtin.append_ #[t, t] ty #[v, .slice (some a) m c]).run P w = .ok v' w' ∧ w'.ownsRow 0 e size v' (n + m) (xs ++ news) ∧ w.grownBy w' v.ownBlock ∧
   (∀ k, v'.ownBlock = some k → v.ownBlock = some k ∨ w.heap.size ≤ k) := by
 rcases hown.2 with ⟨rfl, rfl⟩ | ⟨g, cap, cur, rfl, _, hg, hnc, hcm, hcs, htake⟩
 · obtain rfl : xs = [] := List.eq_nil_of_length_eq_zero (by simpa using hown.1)
   obtain ⟨v', w', hr, ho, hgr, _⟩ := run_append_own (P := P) w w.heap.size t ty e i z size bytes ht hi hz hsize hby hzs hsz (.slice none 0 0) 0 [] (World.ownsRow_nil w _ e size) a m c news hl hnews h1 h63 hbytes (Nat.le_refl _)
   exact ⟨v', w', hr, owns_zero ho, hgr, fun k hk => .inr (ho.lt k hk).1⟩
 · by_cases hroom : n + m ≤ cap
   · obtain ⟨v', w', hr, ho, hgr, _⟩ := run_append_own (P := P) w 0 t ty e i z size bytes ht hi hz hsize hby hzs hsz _ n xs hown a m c news hl hnews h1 h63 hbytes (Nat.zero_le _)
     subst hsize
     have hr2 := run_append_room (P := P) w t ty e i ht hi g n cap cur hg a m c news hl hnews h1 hroom (by rw [hl, hcs, ← Nat.add_mul]; exact Nat.mul_le_mul_right _ hroom)
     have hv : v' = .slice (some ⟨g, 0, none⟩) (n + m) cap := by
      have := hr.symm.trans hr2
      injection this
     refine ⟨v', w', hr, ho, hgr, fun k hk => .inl ?_⟩
     rw [hv] at hk
     exact hk
   · obtain ⟨v', w', hr, ho, hgr⟩ := run_append_arg_grows (P := P) w t ty e i z size bytes ht hi hz hsize hby hzs hsz ⟨g, 0, none⟩ n cap xs hown.1 (hown.cells rfl) a m c news hl hnews (by omega) h63 hbytes
     exact ⟨v', w', hr, owns_zero ho, ⟨hgr.os, hgr.tape, hgr.output, hgr.size, fun k hk _ => hgr.block k hk (by simp)⟩, fun k hk => .inr (ho.lt k hk).1⟩

theorem step_append_owned {P : Program} {ops : Array Oper} {o : Oper} {a : Act} {w : World} {K : Act → World → Prop} {Q : Exit → Act → World → Prop} {E : Prop}
 (hg : o.guard = none) (s x : Operand) (t : TypeId) (hop : o.op = Op.call { callee := Callee.builtin Builtin.append, args := #[s, x], argTypes := #[t, t] })
 (e : TypeId) (z : Value) (size bytes : Nat) (ht : P.underlying t = some (.slice e)) (hi : (P.info? e).map (fun i => (i.zero, i.size, i.bytes)) = some (some z, size, bytes)) (hzs : z.cells.size = size) (hsz : 0 < size)
 (v : Value) (n : Nat) (xs : List Value) (hs : a.eval s = v) (hown : w.ownsRow 0 e size v n xs)
 (ad : Addr) (m c : Nat) (news : List Value) (hx : a.eval x = .slice (some ad) m c) (hl : news.length = m * size) (hnews : ∀ j u, news[j]? = some u → w.cell? (ad.add j) = some u) (h1 : ∀ u ∈ news, u.oneCell' = true)
 (h63 : n + m ≤ maxLen) (hbytes : (n + m) * bytes ≤ 140737488355328)
 (hK : ∀ v' w', w'.ownsRow 0 e size v' (n + m) (xs ++ news) → w.grownBy w' v.ownBlock → (∀ k, v'.ownBlock = some k → v.ownBlock = some k ∨ w.heap.size ≤ k) → K (a.put o.dst v') w') :
 if Region.wanted o (yielded ops a.tmps) = true then Oper.wp P o a w K Q else E := by
 have hw : Region.wanted o (yielded ops a.tmps) = true := by simp [Region.wanted, hg]
 rw [if_pos hw]
 obtain ⟨i, hi, hz⟩ := Option.map_eq_some_iff.1 hi
 simp only [Prod.mk.injEq] at hz
 obtain ⟨hz, hsize, hby⟩ := hz
 obtain ⟨v', w', hrun, r1, r2, r3⟩ := run_append_owned (P := P) w t o.type e i z size bytes ht hi hz hsize hby hzs hsz v n xs hown ad m c news hl hnews h1 h63 hbytes
 unfold Oper.wp
 simp [execOp, hop, resolve, invoke, builtin, hs, hx, hrun, Result.andThen]
 exact hK v' w' r1 r2 r3

theorem wpList_append_owned {P : Program} {ops : Array Oper} {rest : List Oper} {o : Oper} {a : Act} {w : World} {Q : Exit → Act → World → Prop}
 (hg : o.guard = none) (s x : Operand) (t : TypeId) (hop : o.op = Op.call { callee := Callee.builtin Builtin.append, args := #[s, x], argTypes := #[t, t] })
 (e : TypeId) (z : Value) (size bytes : Nat) (ht : P.underlying t = some (.slice e)) (hi : (P.info? e).map (fun i => (i.zero, i.size, i.bytes)) = some (some z, size, bytes)) (hzs : z.cells.size = size) (hsz : 0 < size)
 (v : Value) (n : Nat) (xs : List Value) (hs : a.eval s = v) (hown : w.ownsRow 0 e size v n xs)
 (ad : Addr) (m c : Nat) (news : List Value) (hx : a.eval x = .slice (some ad) m c) (hl : news.length = m * size) (hnews : ∀ j u, news[j]? = some u → w.cell? (ad.add j) = some u) (h1 : ∀ u ∈ news, u.oneCell' = true)
 (h63 : n + m ≤ maxLen) (hbytes : (n + m) * bytes ≤ 140737488355328)
 (hK : ∀ v' w', w'.ownsRow 0 e size v' (n + m) (xs ++ news) → w.grownBy w' v.ownBlock → (∀ k, v'.ownBlock = some k → v.ownBlock = some k ∨ w.heap.size ≤ k) → wpList P ops Q rest (a.put o.dst v') w') :
 wpList P ops Q (o :: rest) a w := by
 refine wpList_plain hg fun K hK' => ?_
 obtain ⟨i, hi, hz⟩ := Option.map_eq_some_iff.1 hi
 simp only [Prod.mk.injEq] at hz
 obtain ⟨hz, hsize, hby⟩ := hz
 obtain ⟨v', w', hrun, r1, r2, r3⟩ := run_append_owned (P := P) w t o.type e i z size bytes ht hi hz hsize hby hzs hsz v n xs hown ad m c news hl hnews h1 h63 hbytes
 unfold Oper.wp
 simp [execOp, hop, resolve, invoke, builtin, hs, hx, hrun, Result.andThen]
 exact hK' _ _ (hK v' w' r1 r2 r3)

theorem Tryz.info97 : (Tryz.prog.info? 97).map (fun i => (i.zero, i.size, i.bytes)) = some (some (.agg zeroEnt), 129, 136) := by kernel_rfl
theorem size_ent (i : Nat) (bs : List UInt8) (h : bs.length = 128) : (entOf (i, bs)).toArray.size = 129 := by simp [entOf, length_secCells, h]

theorem take_to {P : Program} {ops : Array Oper} {Q : Exit → Act → World → Prop} {md : Region.Mode} {S : World → Prop} {oi : Oper} {fuel : Nat} {listed : Array Bool} {a : Act} {w : World} (i dst : Nat) (v : Value) (hi : ops[i]? = some oi)
 (hs : Region.noSelect ops = true) (hf : Region.free md ops listed i = true) (hr : (Region.ready md ops listed).contains i = true)
 (hQ : ∀ c a w, Q (.panic c) (a.put oi.dst v) w → Q (.panic c) a w) (hd : oi.dst = some dst) (hw : Region.wanted oi (yielded ops a.tmps) = true) (hy : ∀ w, S w → (execOp a.eval oi).run P w = .ok (.value v) w) (hS : S w)
 (h : wpAnyH P md ops Q S fuel (listed.setIfInBounds i true) (a.put (some dst) v) w) : wpAnyH P md ops Q S (fuel + 1) listed a w :=
 wpAnyH_take hi hs hf hr hQ (.inl ⟨hw, hy⟩) hS (by rw [hd]; exact h)
theorem op_to {P : Program} {ops : Array Oper} {Q : Exit → Act → World → Prop} {oi : Oper} {a : Act} {w : World} {K : Act → World → Prop} {i : Nat} (dst : Nat) (v : Value) (w' : World) (hi : ops[i]? = some oi)
 (hd : oi.dst = some dst) (hw : Region.wanted oi (yielded ops a.tmps) = true) (hy : (execOp a.eval oi).run P w = .ok (.value v) w') (h : K (a.put (some dst) v) w') : wpOp P ops Q i K a w := by
 refine wpOp_step hi (fun K' hK => ?_)
 rw [if_pos hw]
 unfold Oper.wp
 rw [hy, Oper.upon_value, hd]
 exact hK _ _ h
theorem step_to {P : Program} {ops : Array Oper} {Q : Exit → Act → World → Prop} {md : Region.Mode} {S : World → Prop} {oi : Oper} {fuel : Nat} {listed : Array Bool} {a : Act} {w : World} (i dst : Nat) (v : Value) (w' : World) (hi : ops[i]? = some oi)
 (hr : Region.ready md ops listed = [i]) (hd : oi.dst = some dst) (hw : Region.wanted oi (yielded ops a.tmps) = true) (hy : (execOp a.eval oi).run P w = .ok (.value v) w') (hS : S w')
 (h : wpAnyH P md ops Q S fuel (listed.setIfInBounds i true) (a.put (some dst) v) w') : wpAnyH P md ops Q S (fuel + 1) listed a w := by
 refine wpAnyH_ready hr (by simp) (AllReadyH.cons hi (fun K hK => ?_) AllReadyH.nil)
 rw [if_pos hw]
 unfold Oper.wp
 rw [hy, Oper.upon_value, hd]
 exact hK.out _ _ hS (fun _ => h)
theorem step_by {P : Program} {ops : Array Oper} {Q : Exit → Act → World → Prop} {md : Region.Mode} {S : World → Prop} {oi : Oper} {fuel : Nat} {listed : Array Bool} {a : Act} {w : World} (i : Nat) (hi : ops[i]? = some oi)
 (hr : Region.ready md ops listed = [i])
 (h : ∀ K : Act → World → Prop, (∀ a' w', S w' → wpAnyH P md ops Q S fuel (listed.setIfInBounds i true) a' w' → K a' w') → if Region.wanted oi (yielded ops a.tmps) = true then Oper.wp P oi a w K Q else K (a.put oi.dst undef) w) :
 wpAnyH P md ops Q S (fuel + 1) listed a w := by
 refine wpAnyH_ready hr (by simp) (AllReadyH.cons hi (fun K hK => ?_) AllReadyH.nil)
 exact h K (fun a' w' hS hw => hK.out _ _ hS (fun _ => hw))

theorem step_append_to {P : Program} {ops : Array Oper} {Q : Exit → Act → World → Prop} {md : Region.Mode} {S : World → Prop} {o : Oper} {fuel : Nat} {listed : Array Bool} {a : Act} {w : World} (j dst : Nat) (hj : ops[j]? = some o)
 (hr : Region.ready md ops listed = [j]) (hd : o.dst = some dst)
 (hg : o.guard = none) (s x : Operand) (t : TypeId) (hop : o.op = Op.call { callee := Callee.builtin Builtin.append, args := #[s, x], argTypes := #[t, t] })
 (e : TypeId) (z : Value) (size bytes : Nat) (ht : P.underlying t = some (.slice e)) (hi : (P.info? e).map (fun i => (i.zero, i.size, i.bytes)) = some (some z, size, bytes)) (hzs : z.cells.size = size) (hsz : 0 < size)
 (v : Value) (n : Nat) (xs : List Value) (hs : a.eval s = v) (hown : w.ownsRow 0 e size v n xs)
 (ad : Addr) (m c : Nat) (news : List Value) (hx : a.eval x = .slice (some ad) m c) (hl : news.length = m * size) (hnews : ∀ j u, news[j]? = some u → w.cell? (ad.add j) = some u) (h1 : ∀ u ∈ news, u.oneCell' = true)
 (h63 : n + m ≤ maxLen) (hbytes : (n + m) * bytes ≤ 140737488355328)
 (hK : ∀ v' w', w'.ownsRow 0 e size v' (n + m) (xs ++ news) → w.grownBy w' v.ownBlock → (∀ k, v'.ownBlock = some k → v.ownBlock = some k ∨ w.heap.size ≤ k) → S w' ∧ wpAnyH P md ops Q S fuel (listed.setIfInBounds j true) (a.put (some dst) v') w') :
 wpAnyH P md ops Q S (fuel + 1) listed a w :=
 step_by j hj hr (fun _ hK' => step_append_owned hg s x t hop e z size bytes ht hi hzs hsz v n xs hs hown ad m c news hx hl hnews h1 h63 hbytes
  (fun v' w' r1 r2 r3 => hK' _ _ (hK v' w' r1 r2 r3).1 (by rw [hd]; exact (hK v' w' r1 r2 r3).2)))
theorem step_store_to {P : Program} {ops : Array Oper} {Q : Exit → Act → World → Prop} {md : Region.Mode} {S : World → Prop} {o : Oper} {fuel : Nat} {listed : Array Bool} {a : Act} {w : World} (j : Nat) (w' : World) (hj : ops[j]? = some o)
 (hr : Region.ready md ops listed = [j]) (hd : o.dst = none) (hw : Region.wanted o (yielded ops a.tmps) = true) (t : TypeId) (x y : Operand) (hop : o.op = Op.store t x y) (px v : Value) (hx : a.eval x = px) (hy : a.eval y = v)
 (hrun : (Instr.storeAt t px v).run P w = .ok () w') (hS : S w') (h : wpAnyH P md ops Q S fuel (listed.setIfInBounds j true) a w') : wpAnyH P md ops Q S (fuel + 1) listed a w := by
 refine step_by j hj hr (fun K hK => ?_)
 rw [if_pos hw]
 unfold Oper.wp execOp
 simp only [hop, hx, hy, Sem.run_bind, hrun, Result.andThen_ok, Sem.run_pure, Oper.upon_skip]
 rw [hd]
 exact hK _ _ hS h

theorem foldl_lay : ∀ (l : List Value) (k : Nat) (A : Array Value), k + l.length = A.size → (l.zipIdx k).foldl (fun (cs : Array Value) (x : Value × Nat) => cs.setIfInBounds (0 + x.2) x.1) A = (A.toList.take k ++ l).toArray
 | [], k, A, h => by
   simp at h
   simp only [List.zipIdx_nil, List.foldl_nil, List.append_nil]
   rw [List.take_of_length_le (by rw [Array.length_toList]; omega)]
 | v :: r, k, A, h => by
   simp only [List.length_cons] at h
   rw [List.zipIdx_cons, List.foldl_cons, foldl_lay r (k + 1) _ (by simp; omega)]
   have hk : k < A.toList.length := by rw [Array.length_toList]; omega
   rw [Nat.zero_add, Array.toList_setIfInBounds, List.take_set, List.take_succ_eq_append_getElem hk, List.set_append_right _ _ (by simp; omega)]
   simp [Nat.min_eq_left (show k ≤ A.size by omega)]
theorem buildSlice_op (ρ : Operand → Value) (o : Oper) (t : TypeId) (len j : Nat) (x : Operand) (ho : o.op = .buildSlice t len #[(j, x)]) (v : Value) (hx : ρ x = v) :
 execOp ρ o = (do pure (Next.value (← Instr.buildSlice t len #[(j, v)]))) := by
 unfold execOp
 simp [ho, hx]
theorem run_load90 (w : World) (p : Nat) (cv : Value) (h : w.cell? ⟨p, 1, none⟩ = some cv) : (Instr.loadAt 90 (.pointer (some ⟨p, 1, none⟩))).run Tryz.prog w = .ok cv w := by
 have hu := Tryz.underlying90
 simp [go_sem, h]
theorem Tryz.buildEnt (E : Array Value) (hE : E.size = 129) (w : World) : (Instr.buildSlice 90 1 #[(0, .agg E)]).run Tryz.prog w = .ok (.slice (some ⟨w.heap.size, 0, none⟩) 1 1) (w.alloc (.cells E 97)) := by
 obtain ⟨i, hi, hz⟩ := Option.map_eq_some_iff.1 Tryz.info97
 simp only [Prod.mk.injEq] at hz
 obtain ⟨hz, hsize, _⟩ := hz
 have hfill : Instr.fill (fun i => some (i * 129, 129)) ((Array.range 129).map (zeroEnt[· % zeroEnt.size]!)) [(0, .agg E)] = some E := by
  have hf := foldl_lay E.toList 0 ((Array.range 129).map (zeroEnt[· % zeroEnt.size]!)) (by simp [hE])
  simp only [Instr.fill, Value.cells, hE, Nat.zero_mul, Nat.zero_add, Array.size_map, Array.size_range]
  simp only [ne_eq, not_true_eq_false, decide_false, Bool.false_or]
  rw [if_neg (by simp)]
  rw [← Array.foldl_toList, Array.toList_zipIdx]
  simpa using hf
 simp [Instr.buildSlice, run_underlying Tryz.underlying90, sizeOf, typeInfo, hi, hsize, zeroValue, hz, newRow, hfill, Value.cells]
end Go.Proofs.YteeembildppgmaaGreat
namespace Go.Proofs.YteeembildppgmaaGreat
open Go.RowKit
set_option linter.unusedVariables false
set_option linter.unusedSimpArgs false
def SrcAt (w : World) (q o : Nat) (bs : List UInt8) : Prop := q < w.heap.size ∧ ∀ j u, (secCells bs)[j]? = some u → w.cell? ((⟨q, o, none⟩ : Addr).add j) = some u
theorem SrcAt.of {w w' : World} {q o : Nat} {bs : List UInt8} (h : SrcAt w q o bs) (hs : w.heap.size ≤ w'.heap.size) (hb : w'.heap[q]? = w.heap[q]?) : SrcAt w' q o bs :=
 ⟨Nat.lt_of_lt_of_le h.1 hs, fun j u hu => by
  have h1 := h.2 j u hu
  rw [Addr.add_mid] at h1 ⊢
  exact (World.cell?_of_block (a := ⟨q, o + j, none⟩) hb).trans h1⟩
theorem SrcAt.block {w : World} {q : Nat} {bs : List UInt8} {t : TypeId} {fr : Nat × Nat} (h : w.heap[q]? = some (.cells (secCells bs).toArray t fr)) : SrcAt w q 0 bs :=
 ⟨(Array.getElem?_eq_some_iff.1 h).1, src_of_block h⟩
def Dv.wrote (D : Dv) (i : Nat) (bs : List UInt8) : Dv := { D.burnt with calls := wrap64 (D.calls + 1), W := D.W ++ [(i, bs)] }

theorem Tryz.built97 (i : Nat) : Tryz.prog.built 97 [(0, .int .i64 (i : Int))] = some (entOf (i, zeros)).toArray := by kernel_rfl
theorem wpList_build_is {P : Program} {ops : Array Oper} {rest : List Oper} {o : Oper} {a : Act} {w : World} {Q : Exit → Act → World → Prop} (hg : o.guard = none) (t : TypeId) (parts : Array (Nat × Operand)) (ho : o.op = .build t parts)
 (cells : Array Value) (hf : P.built t (parts.map fun (i, x) => (i, a.eval x)).toList = some cells)
 (h : wpList P ops Q rest (a.put o.dst (.agg cells)) w) : wpList P ops Q (o :: rest) a w :=
 wpList_build hg t parts ho (by rw [hf]; rfl) (by rw [hf]; exact h)

theorem wrote_is {w5 w6 : World} {p lb lcap : Nat} {fp : List Nat} {D : Dv} {cv v' : Value} {i : Nat} {bs : List UInt8} (h : DevIs w5 p fp D lb lcap cv) (hi : i < D.L.length) (hbs : bs.length = 128)
 (ho : w6.ownsRow 0 97 129 v' (D.W.length + 1) (entCells D.W ++ entOf (i, bs))) (hg : w5.grownBy w6 cv.ownBlock) (hfr : ∀ k, v'.ownBlock = some k → cv.ownBlock = some k ∨ w5.heap.size ≤ k) :
 DevIs (w6.setCell ⟨p, 1, none⟩ v') p (fp ++ v'.ownBlock.toList) { D with W := D.W ++ [(i, bs)] } lb lcap v' ∧ Off fp w5 (w6.setCell ⟨p, 1, none⟩ v') ∧ ∀ k ∈ fp ++ v'.ownBlock.toList, k ∈ fp ∨ w5.heap.size ≤ k := by
 have hp6 : w6.heap[p]? = w5.heap[p]? := hg.block p h.lt (fun e => h.ne2 e.symm)
 have hl6 : w6.heap[lb]? = w5.heap[lb]? := hg.block lb h.ltL (fun e => h.ne3 e.symm)
 have n2 : v'.ownBlock ≠ some p := fun e => by
  rcases hfr p e with h1 | h1
  · exact h.ne2 h1
  · have := h.lt; omega
 have n3 : v'.ownBlock ≠ some lb := fun e => by
  rcases hfr lb e with h1 | h1
  · exact h.ne3 h1
  · have := h.ltL; omega
 have hh := heap_setCell_same w6 p 1 _ _ v' (hp6.trans h.head)
 refine ⟨⟨?_, hh, ?_, ?_, h.ne1, n2, n3, by simp [h.inP], by simp [h.inL], fun k hk => by simp [hk], ?_⟩, ?_, ?_⟩
 · refine ⟨h.wf.pos, h.wf.max, h.wf.sec, fun x hx => ?_, h.wf.lo, h.wf.hi⟩
   rcases List.mem_append.1 hx with hx | hx
   · exact h.wf.ent x hx
   · obtain rfl : x = (i, bs) := by simpa using hx
     exact ⟨hi, hbs⟩
 · exact owns_of_block h.row (fun k hk => by
    obtain rfl : lb = k := by simpa [Value.ownBlock] using hk
    rw [heap_setCell_other w6 _ lb v' (fun e => h.ne1 e.symm)]
    exact hl6)
 · have he : entCells (D.W ++ [(i, bs)]) = entCells D.W ++ entOf (i, bs) := by simp [entCells]
   rw [he]
   show World.ownsRow _ 0 97 129 v' (D.W ++ [(i, bs)]).length _
   rw [List.length_append, List.length_singleton]
   exact owns_of_block ho (fun k hk => heap_setCell_other w6 _ k v' (fun e => n2 (by rw [hk]; exact congrArg some e)))
 · intro k hk
   have hs : (w6.setCell ⟨p, 1, none⟩ v').heap.size = w6.heap.size := by simp [World.setCell]
   rw [hs]
   rcases List.mem_append.1 hk with hk | hk
   · exact Nat.lt_of_lt_of_le (h.lim k hk) hg.size
   · exact (ho.lt k (by simpa using hk)).2
 · exact ((Off.refl fp w5).grown hg (fun k hk => .inl (h.inC k hk))).setCell _ _ (.inl h.inP)
 · intro k hk
   rcases List.mem_append.1 hk with hk | hk
   · exact .inl hk
   · rcases hfr k (by simpa using hk) with h1 | h1
     · exact .inl (h.inC k h1)
     · exact .inr h1
theorem own_form {w : World} {e : TypeId} {size n : Nat} {v : Value} {xs : List Value} (h : w.ownsRow 0 e size v n xs) : ∃ ao m c, v = .slice ao m c := by
 rcases h.2 with ⟨rfl, _⟩ | ⟨g, cap, cur, rfl, _⟩
 · exact ⟨_, _, _, rfl⟩
 · exact ⟨_, _, _, rfl⟩
theorem run_store90 (w : World) (p : Nat) (u : Value) (ao : Option Addr) (m c : Nat) (h : w.cell? ⟨p, 1, none⟩ = some u) (hf : w.frozen? ⟨p, 1, none⟩ = false) :
 (Instr.storeAt 90 (.pointer (some ⟨p, 1, none⟩)) (.slice ao m c)).run Tryz.prog w = .ok () (w.setCell ⟨p, 1, none⟩ (.slice ao m c)) := by
 simp [go_sem, h, hf]

set_option maxHeartbeats 1000000 in
set_option maxRecDepth 100000 in
theorem write_ok (p i q o c : Nat) (bs : List UInt8) (w : World) (fp : List Nat) (D : Dv) (h : DevAt w p fp D) (hd : D.dead = false) (hi : i < D.L.length) (hf : D.fuse ≠ 0) (hm : D.W.length < 1000000)
 (hbs : bs.length = 128) (hq : SrcAt w q o bs) (hqn : q ∉ fp) :
 Calls Tryz.prog 113 #[.pointer (some ⟨p, 0, none⟩), .int .i64 (i : Int), .slice (some ⟨q, o, none⟩) 128 c] w fun e w' => e = .returned (.int .i64 0) ∧
  ∃ fp', DevAt w' p fp' (D.wrote i bs) ∧ Off fp w w' ∧ ∀ k ∈ fp', k ∈ fp ∨ w.heap.size ≤ k := by
 obtain ⟨lb, lcap, cv, h⟩ := h
 have k3 := h.c3
 rw [hd] at k3
 have HN := hide (has_yes p i w _ _ _ h.c0 (by omega) (by omega))
 have HB := hide (burn_ok p w fp D lb lcap cv h hf)
 have hn : ((128 : Int) != 128) = false := rfl
 have HF := hide hf
 have HBS := hide hbs
 have HQ := hide hq
 have hqs : q < w.heap.size := hq.1
 have hinP := h.inP
 clear hd hf hbs hq
 go_enter Tryz.func113, Tryz.ntmps113
 go_wp2_with (first | (go_at_call 45; refine HN.out.mono ?_; rintro e w' ⟨rfl, hw⟩; have hw := hw.symm; subst hw) | fail)
 refine HB.out.mono ?_
 rintro e w1 ⟨rfl, h1, ho1⟩
 have hO1 : Off fp w w1 := ho1.mono (by simpa using hinP)
 clear HN HB k3 ho1
 have k3 := h1.c3
 have k4 := h1.c4
 have f4 := h1.fz 4
 obtain ⟨W2, hW2⟩ : ∃ W2, w1.setCell ⟨p, 4, none⟩ (.int .i64 (wrap64 (D.burnt.calls + 1))) = W2 := ⟨_, rfl⟩
 have hwf2 : Dv.wf { D.burnt with calls := wrap64 (D.calls + 1) } := ⟨h1.wf.pos, h1.wf.max, h1.wf.sec, h1.wf.ent, h1.wf.lo, h1.wf.hi⟩
 have h2 : DevIs W2 p fp { D.burnt with calls := wrap64 (D.calls + 1) } lb lcap cv := by rw [← hW2]; exact h1.heads 4 _ _ rfl rfl hwf2 rfl
 have hO2 : Off fp w W2 := by rw [← hW2]; exact hO1.setCell _ _ (.inl hinP)
 have HQ2 : Hid (SrcAt W2 q o bs) := HQ.out.of hO2.size (hO2.block q hqs hqn)
 have hE : (entOf (i, zeros)).toArray.size = 129 := by simp [entOf, length_secCells, zeros]
 have HLB : Hid ((secCells bs).length = 128) := by show _ = _; rw [length_secCells]; exact HBS.out
 have FX : Hid (((W2.alloc (.cells zeroEnt 97)).setRow W2.heap.size (entOf (i, zeros)).toArray).heap[W2.heap.size]? = some (.cells (entOf (i, zeros)).toArray 97 (0, 0))) := setRow_heap _ _ _ _ _ _ (heap_alloc_new _ _)
 have FQ : Hid (SrcAt ((W2.alloc (.cells zeroEnt 97)).setRow W2.heap.size (entOf (i, zeros)).toArray) q o bs) := by
  have hql : q < W2.heap.size := HQ2.out.1
  refine HQ2.out.of ?_ ?_
  · simp [World.setRow]
  · rw [setRow_other _ _ _ _ (by omega), Below.heap_alloc _ _ _ hql]
 have z97 := Tryz.zero97
 have HZ : Hid (zeroEnt.size = (entOf (i, zeros)).toArray.size) := (size_ent 0 zeros length_zeros).trans hE.symm
 have HE := hide hE
 clear hE h1
 go_wp2_with (first
  | (refine wpList_build_is rfl 97 _ rfl (entOf (i, zeros)).toArray (Tryz.built97 i) ?_)
  | (refine wpList_store_row rfl 97 _ _ rfl W2.heap.size (entOf (i, zeros)).toArray rfl rfl 97 zeroEnt (heap_alloc_new _ _) (Tryz.size97' HE.out) HZ.out (all_oneCell_toArray (one_entOf _)) ?_)
  | (refine wpList_copy_own rfl _ _ 36 36 rfl 5 Tryz.underlying36 (by kernel_rfl) W2.heap.size 1 128 128 ⟨q, o, none⟩ 128 c rfl rfl (entOf (i, zeros)).toArray 97 FX.out (secCells bs) HLB.out FQ.out.2 (by rw [HLB.out, HE.out]; omega) (one_secCells _) ?_))
 obtain ⟨W4, hW4⟩ : ∃ W4, ((W2.alloc (.cells zeroEnt 97)).setRow W2.heap.size (entOf (i, zeros)).toArray).setRow W2.heap.size (List.take 1 (entOf (i, zeros)) ++ (secCells bs ++ List.drop (1 + (secCells bs).length) (entOf (i, zeros)))).toArray = W4 := ⟨_, rfl⟩
 rw [hW4]
 have hG : W4.heap[W2.heap.size]? = some (.cells (entOf (i, bs)).toArray 97 (0, 0)) := by
  rw [← hW4, setRow_heap _ _ _ _ _ _ FX.out]
  congr 2
  rw [HLB.out, List.drop_of_length_le (by have := HE.out; simp at this; omega)]
  simp [entOf]
 have hB4 : Below W2.heap.size W2 W4 := by
  rw [← hW4]
  exact below_setRow (below_setRow ((Below.refl _ _).alloc (Nat.le_refl _) _) (Nat.le_refl _) _) (Nat.le_refl _) _
 have h4 := h2.below hB4
 have hO4 : Off fp w W4 := hO2.trans (Off.of_below hB4 []) (by simp)
 have hgs : W2.heap.size < W4.heap.size := (Array.getElem?_eq_some_iff.1 hG).1
 have hws : w.heap.size ≤ W2.heap.size := hO2.size
 have hgp : W2.heap.size ≠ p := fun e => by have := h2.lt; omega
 generalize W2.heap.size = g at *
 clear hW4 hB4 h2 hO2 hW2 HQ2 FX FQ z97 HZ HE hwf2 k3 k4 f4 hO1
 have k1 := h4.c1
 have f1 := h4.fz 1
 have HR : Hid (W4.rangeAt g 0 (entOf (i, bs))) := fun j v hv => by rw [Nat.zero_add, cell_of_row _ _ _ _ _ _ hG]; simpa using hv
 have HE : Hid ((entOf (i, bs)).length = 129) := by show _ = _; simp [entOf, length_secCells, HBS.out]
 simp only [Act.put, zA, zB, zC]
 refine wp_region_held_drew (S := fun _ => True) (by kernel_rfl) trivial (fun hH => ?_)
 refine take_to 0 37 (.pointer (some ⟨p, 0, none⟩)) rfl (by kernel_rfl) (by kernel_rfl) (by kernel_rfl) (fun _ _ _ h => h) rfl (by rfl) (fun w _ => by rfl) hH ?_
 simp only [Act.put, zA, zB, zC]
 refine take_to 1 38 (.pointer (some ⟨p, 0, none⟩)) rfl (by kernel_rfl) (by kernel_rfl) (by kernel_rfl) (fun _ _ _ h => h) rfl (by rfl) (fun w _ => by rfl) hH ?_
 simp only [Act.put, zA, zB, zC]
 refine take_to 2 39 (.pointer (some ⟨p, 0, none⟩)) rfl (by kernel_rfl) (by kernel_rfl) (by kernel_rfl) (fun _ _ _ h => h) rfl (by rfl) (fun w _ => by rfl) hH ?_
 simp only [Act.put, zA, zB, zC]
 refine take_to 3 40 (.pointer (some ⟨p, 1, none⟩)) rfl (by kernel_rfl) (by kernel_rfl) (by kernel_rfl) (fun _ _ _ h => h) rfl (by rfl) (fun w _ => by kernel_rfl) hH ?_
 simp only [Act.put, zA, zB, zC]
 have kd : W4.drew.cell? ⟨p, 1, none⟩ = some cv := k1
 have rd : W4.drew.rangeAt g 0 (entOf (i, bs)) := HR.out
 have L4 : ∀ W : World, W.cell? ⟨p, 1, none⟩ = some cv → (do pure (Next.value (← Instr.loadAt 90 (.pointer (some ⟨p, 1, none⟩)))) : Sem Next).run Tryz.prog W = .ok (.value cv) W := fun W hW => by
  rw [Sem.run_bind, run_load90 W p cv hW]; rfl
 have L5 : ∀ W : World, W.rangeAt g 0 (entOf (i, bs)) → (do pure (Next.value (← Instr.loadAt 97 (.pointer (some ⟨g, 0, none⟩)))) : Sem Next).run Tryz.prog W = .ok (.value (.agg (entOf (i, bs)).toArray)) W := fun W hW => by
  rw [Sem.run_bind, run_loadAt_mid W g 0 97 _ _ hW Tryz.underlying97 rfl (Tryz.size97 HE.out)]; rfl
 have L6 : ∀ W : World, (do pure (Next.value (← Instr.buildSlice 90 1 #[(0, .agg (entOf (i, bs)).toArray)])) : Sem Next).run Tryz.prog W = .ok (.value (.slice (some ⟨W.heap.size, 0, none⟩) 1 1)) (W.alloc (.cells (entOf (i, bs)).toArray 97)) := fun W => by
  rw [Sem.run_bind, Tryz.buildEnt (entOf (i, bs)).toArray (by simpa using HE.out)]; rfl
 have kd6 : (W4.drew.alloc (.cells (entOf (i, bs)).toArray 97)).cell? ⟨p, 1, none⟩ = some cv := by
  rw [World.cell?_alloc_lt _ _ _ (by exact h4.lt)]; exact k1
 have hB5 : Below W4.heap.size W4 (W4.drew.alloc (.cells (entOf (i, bs)).toArray 97)) := ((Below.refl _ W4).drew).alloc (Nat.le_refl _) _
 have h5 := h4.below hB5
 have hE5 : (W4.drew.alloc (.cells (entOf (i, bs)).toArray 97)).heap[W4.heap.size]? = some (.cells (entOf (i, bs)).toArray 97 (0, 0)) := heap_alloc_new W4.drew _
 have hO5 : Off fp w (W4.drew.alloc (.cells (entOf (i, bs)).toArray 97)) := hO4.trans (Off.of_below hB5 []) (by simp)
 have HZ5 : Hid ((Value.agg zeroEnt).cells.size = 129) := size_ent 0 zeros length_zeros
 refine wpAnyH_all (rs := [4, 5]) (by kernel_rfl) (by simp) ?_
 intro n hn
 rcases (by simpa using hn : n = 4 ∨ n = 5) with rfl | rfl
 refine op_to 41 cv _ rfl rfl (by rfl) (L4 _ kd) ⟨trivial, ?_⟩
 simp only [Act.put, zA, zB, zC]
 refine step_to 5 42 (.agg (entOf (i, bs)).toArray) _ rfl (by kernel_rfl) rfl (by rfl) (L5 _ rd) trivial ?_
 simp only [Act.put, zA, zB, zC]
 refine step_to 6 43 (.slice (some ⟨W4.heap.size, 0, none⟩) 1 1) (W4.drew.alloc (.cells (entOf (i, bs)).toArray 97)) rfl (by kernel_rfl) rfl (by rfl) (by rw [buildSlice_op _ _ 90 1 0 (.tmp 42) rfl _ rfl]; exact L6 _) trivial ?_
 simp only [Act.put, zA, zB, zC]
 rotate_left
 refine op_to 42 (.agg (entOf (i, bs)).toArray) _ rfl rfl (by rfl) (L5 _ rd) ⟨trivial, ?_⟩
 simp only [Act.put, zA, zB, zC]
 refine wpAnyH_all (rs := [4, 6]) (by kernel_rfl) (by simp) ?_
 intro n hn
 rcases (by simpa using hn : n = 4 ∨ n = 6) with rfl | rfl
 refine op_to 41 cv _ rfl rfl (by rfl) (L4 _ kd) ⟨trivial, ?_⟩
 simp only [Act.put, zA, zB, zC]
 refine step_to 6 43 (.slice (some ⟨W4.heap.size, 0, none⟩) 1 1) (W4.drew.alloc (.cells (entOf (i, bs)).toArray 97)) rfl (by kernel_rfl) rfl (by rfl) (by rw [buildSlice_op _ _ 90 1 0 (.tmp 42) rfl _ rfl]; exact L6 _) trivial ?_
 simp only [Act.put, zA, zB, zC]
 rotate_left
 refine op_to 43 (.slice (some ⟨W4.heap.size, 0, none⟩) 1 1) (W4.drew.alloc (.cells (entOf (i, bs)).toArray 97)) rfl rfl (by rfl) (by rw [buildSlice_op _ _ 90 1 0 (.tmp 42) rfl _ rfl]; exact L6 _) ⟨trivial, ?_⟩
 simp only [Act.put, zA, zB, zC]
 refine step_to 4 41 cv _ rfl (by kernel_rfl) rfl (by rfl) (L4 _ kd6) trivial ?_
 simp only [Act.put, zA, zB, zC]
 all_goals
  refine step_append_to 7 44 rfl (by kernel_rfl) rfl rfl (.tmp 41) (.tmp 43) 90 rfl 97 (.agg zeroEnt) 129 136 Tryz.underlying90 Tryz.info97 HZ5.out (by omega) cv D.W.length (entCells D.W) rfl h5.cache ⟨W4.heap.size, 0, none⟩ 1 1 (entOf (i, bs)) rfl HE.out (src_of_block hE5) (one_entOf _) (by simp only [maxLen]; omega) (by omega) (fun v' w6 ho hg hfr => ⟨trivial, ?_⟩)
  simp only [Act.put, zA, zB, zC]
  refine step_to 8 45 (.pointer (some ⟨p, 0, none⟩)) w6 rfl (by kernel_rfl) rfl (by rfl) rfl trivial ?_
  simp only [Act.put, zA, zB, zC]
  refine step_to 9 46 (.pointer (some ⟨p, 1, none⟩)) w6 rfl (by kernel_rfl) rfl (by rfl) (by kernel_rfl) trivial ?_
  simp only [Act.put, zA, zB, zC]
  obtain ⟨ao, mv, cq, hv⟩ := own_form ho
  have hp6 := hg.block p h5.lt (fun e => h5.ne2 e.symm)
  have kp6 : w6.cell? ⟨p, 1, none⟩ = some cv := (World.cell?_of_block hp6).trans h5.c1
  have fp6 : w6.frozen? ⟨p, 1, none⟩ = false := (World.frozen?_of_block hp6).trans (h5.fz 1)
  obtain ⟨hD, hO, hF⟩ := wrote_is h5 hi HBS.out ho hg hfr
  have hst := run_store90 w6 p cv ao mv cq kp6 fp6
  rw [← hv] at hst
  refine step_store_to 10 _ rfl (by kernel_rfl) rfl (by rfl) 90 (.tmp 46) (.tmp 44) rfl _ _ rfl rfl hst trivial ?_
  refine wpAnyH_done (by kernel_rfl) ?_ _
  clear L4 L5 L6 kd rd kd6 hst kp6 fp6 hp6 hv
  go_wp2
  go_ret
  exact ⟨rfl, _, ⟨_, _, _, hD⟩, hO5.trans hO (fun k hk => .inl hk), fun k hk => (hF k hk).imp id (fun h => Nat.le_trans hO5.size h)⟩
end Go.Proofs.YteeembildppgmaaGreat
namespace Go.Proofs.YteeembildppgmaaGreat
open Go.RowKit
set_option linter.unusedVariables false
set_option linter.unusedSimpArgs false
theorem run_storeAt_in {P : Program} (w : World) (b o : Nat) (t ty : TypeId) (cur : Array Value) (cs : List Value) (hg : w.heap[b]? = some (.cells cur t (0, 0))) (hfit : o + cs.length ≤ cur.size) (hi : (P.info? ty).map (·.size) = some cs.length) (h1 : ∀ v ∈ cs, v.oneCell' = true) :
 (Instr.storeAt ty (.pointer (some ⟨b, o, none⟩)) (.agg cs.toArray)).run P w = .ok () (w.setRow b (cur.toList.take o ++ cs ++ cur.toList.drop (o + cs.length)).toArray) := by
 have hr := run_storeCells_at P b o t cs 0 cur w hg (by simpa using hfit) h1
 simp only [Nat.add_zero] at hr
 cases hq : P.info? ty with
 | none => simp [hq] at hi
 | some i =>
   have hs : cs.length = i.size := by simp [hq] at hi; omega
   simp [Instr.storeAt, Instr.sureAddr, storeVar, sizeOf, typeInfo, hq, Value.cells, hs]
   rw [hs, List.append_assoc] at hr
   exact hr

theorem DevIs.lay {w : World} {p lb lcap : Nat} {fp : List Nat} {D : Dv} {cv : Value} (h : DevIs w p fp D lb lcap cv) (i : Nat) (hi : i < D.L.length) (s : List UInt8) (hs : s.length = 128) :
 ∃ w', (Instr.storeAt 94 (.pointer (some ⟨lb, i * 128, none⟩)) (.agg (secCells s).toArray)).run Tryz.prog w = .ok () w' ∧ DevIs w' p fp { D with L := D.L.set i s } lb lcap cv ∧ Off [lb] w w' := by
 have hl : (secCells s).length = 128 := by rw [length_secCells]; exact hs
 rcases h.row.2 with ⟨h1, _⟩ | ⟨g, cap, cur, h1, _, hg, hnc, hcm, hcs, htake⟩
 · cases h1
 · injection h1 with h1 h2 h3
   injection h1 with h1
   injection h1 with h1
   subst h1 h3
   have hrl : (rowCells D.L).length = D.L.length * 128 := h.row.1
   have hfit : i * 128 + (secCells s).length ≤ cur.size := by
    rw [hl, hcs]
    have : (i + 1) * 128 ≤ lcap * 128 := Nat.mul_le_mul_right _ (by omega)
    omega
   refine ⟨_, run_storeAt_in w lb (i * 128) 94 94 cur (secCells s) hg hfit (Tryz.size94 hl) (one_secCells s), ?_, (Off.refl _ w).setRow _ _ (.inl (by simp))⟩
   have hheap := setRow_heap w lb cur (cur.toList.take (i * 128) ++ secCells s ++ cur.toList.drop (i * 128 + (secCells s).length)).toArray 94 (0, 0) hg
   have hp := setRow_other w lb p (cur.toList.take (i * 128) ++ secCells s ++ cur.toList.drop (i * 128 + (secCells s).length)).toArray h.ne1
   have hsplit : cur.toList = rowCells D.L ++ cur.toList.drop (D.L.length * 128) := by rw [← htake, List.take_append_drop]
   have hspl : cur.toList.take (i * 128) ++ secCells s ++ cur.toList.drop (i * 128 + (secCells s).length) = rowCells (D.L.set i s) ++ cur.toList.drop (D.L.length * 128) := by
    have h2 : i * 128 + 128 ≤ D.L.length * 128 := by
     have : (i + 1) * 128 ≤ D.L.length * 128 := Nat.mul_le_mul_right _ (by omega)
     omega
    have hfs := flat_set 128 (D.L.map secCells) h.wf.rows i (by simpa using hi) (secCells s) hl
    have e1 : cur.toList.take (i * 128) = (rowCells D.L).take (i * 128) := by
     rw [← htake, List.take_take, Nat.min_eq_left (by omega)]
    have e2 : cur.toList.drop (i * 128 + (secCells s).length) = (rowCells D.L).drop (i * 128 + (secCells s).length) ++ cur.toList.drop (D.L.length * 128) := by
     conv => lhs; rw [hsplit]
     rw [List.drop_append_of_le_length (by rw [hrl, hl]; exact h2)]
    rw [e1, e2, ← List.append_assoc]
    congr 1
    unfold rowCells
    rw [hfs, List.map_set]
   rw [hspl] at hheap hp ⊢
   have hlen : (D.L.set i s).length = D.L.length := List.length_set
   have hwf : Dv.wf { D with L := D.L.set i s } := by
    refine ⟨?_, ?_, ?_, ?_, h.wf.lo, h.wf.hi⟩
    · show 1 ≤ (D.L.set i s).length; rw [hlen]; exact h.wf.pos
    · show (D.L.set i s).length ≤ 8192; rw [hlen]; exact h.wf.max
    · intro x hx
      rcases List.mem_or_eq_of_mem_set hx with hx | rfl
      · exact h.wf.sec x hx
      · exact hs
    · intro x hx
      show x.1 < (D.L.set i s).length ∧ _
      rw [hlen]; exact h.wf.ent x hx
   have hrl2 : (rowCells (D.L.set i s)).length = D.L.length * 128 := by
    unfold rowCells
    rw [flat_length 128 _ hwf.rows, List.length_map, hlen]
   refine ⟨hwf, ?_, ?_, ?_, h.ne1, h.ne2, h.ne3, h.inP, h.inL, h.inC, fun k hk => by simpa using h.lim k hk⟩
   · show _ = some (Obj.cells #[.slice _ (D.L.set i s).length _, _, _, _, _] _ _)
     rw [hlen]
     exact hp.trans h.head
   · show World.ownsRow _ 0 94 128 (.slice _ (D.L.set i s).length _) (D.L.set i s).length _
     rw [hlen]
     refine ⟨hrl2, .inr ⟨lb, lcap, _, rfl, Nat.zero_le _, hheap, hnc, hcm, ?_, ?_⟩⟩
     · have hc2 : cur.toList.length = lcap * 128 := by rw [Array.length_toList]; exact hcs
       have : (rowCells (D.L.set i s) ++ cur.toList.drop (D.L.length * 128)).length = lcap * 128 := by
        rw [List.length_append, hrl2, List.length_drop, hc2]
        have : D.L.length * 128 ≤ lcap * 128 := Nat.mul_le_mul_right _ hnc
        omega
       simpa using this
     · show List.take (D.L.length * 128) (rowCells (D.L.set i s) ++ cur.toList.drop (D.L.length * 128)) = _
       rw [List.take_append_of_le_length (by omega), List.take_of_length_le (by omega)]
   · exact owns_of_block h.cache (fun k hk => setRow_other w lb k _ (fun e => h.ne3 (by rw [hk, e])))
theorem DevIs.drop {w : World} {p lb lcap : Nat} {fp : List Nat} {D : Dv} {cv : Value} (h : DevIs w p fp D lb lcap cv) : DevIs (w.setCell ⟨p, 1, none⟩ (.slice none 0 0)) p fp { D with W := [] } lb lcap (.slice none 0 0) := by
 have hh := heap_setCell_same w p 1 _ _ (.slice none 0 0) h.head
 refine ⟨⟨h.wf.pos, h.wf.max, h.wf.sec, fun x hx => by simp at hx, h.wf.lo, h.wf.hi⟩, hh, ?_, World.ownsRow_nil _ _ _ _, h.ne1, by simp [Value.ownBlock], by simp [Value.ownBlock], h.inP, h.inL, fun k hk => by simp [Value.ownBlock] at hk, fun k hk => by simpa [World.setCell] using h.lim k hk⟩
 exact owns_of_block h.row (fun k hk => heap_setCell_other w _ k _ (fun e => h.ne1 (by simp [Value.ownBlock] at hk e; omega)))
theorem run_load89 (w : World) (p : Nat) (v : Value) (h : w.cell? ⟨p, 0, none⟩ = some v) : (Instr.loadAt 89 (.pointer (some ⟨p, 0, none⟩))).run Tryz.prog w = .ok v w := by
 have hu := Tryz.underlying89
 simp [go_sem, h]
theorem run_load3 (w : World) (p o : Nat) (v : Value) (h : w.cell? ⟨p, o, none⟩ = some v) : (Instr.loadAt 3 (.pointer (some ⟨p, o, none⟩))).run Tryz.prog w = .ok v w := by
 have hu := Tryz.underlying3
 simp [go_sem, h]
theorem run_index89 (w : World) (lb n cap i : Nat) (h : i < n) : (Instr.indexAt 89 (.slice (some ⟨lb, 0, none⟩) n cap) (.int .i64 (i : Int))).run Tryz.prog w = .ok (.pointer (some ⟨lb, i * 128, none⟩)) w := by
 have hu := Tryz.underlying89
 have hs : (Tryz.prog.info? 94).map (·.size) = some 128 := by kernel_rfl
 obtain ⟨t, ht, hz⟩ := Option.map_eq_some_iff.1 hs
 have hlt : (i : Int) < n := by omega
 simp [Instr.indexAt, asIntOf, run_underlying hu, sizeOf, typeInfo, ht, hz, hlt, Addr.add_mid]
 intro h2
 omega
theorem op_load (ρ : Operand → Value) (o : Oper) (t : TypeId) (x : Operand) (ho : o.op = .load t x) (px v : Value) (hx : ρ x = px) {P : Program} {w : World} (hr : (Instr.loadAt t px).run P w = .ok v w) : (execOp ρ o).run P w = .ok (.value v) w := by
 unfold execOp
 simp only [ho, hx, Sem.run_bind, hr, Result.andThen_ok, Sem.run_pure]
theorem op_index (ρ : Operand → Value) (o : Oper) (t : TypeId) (x y : Operand) (ho : o.op = .indexAddr t x y) (px py v : Value) (hx : ρ x = px) (hy : ρ y = py) {P : Program} {w : World} (hr : (Instr.indexAt t px py).run P w = .ok v w) : (execOp ρ o).run P w = .ok (.value v) w := by
 unfold execOp
 simp only [ho, hx, hy, Sem.run_bind, hr, Result.andThen_ok, Sem.run_pure]
end Go.Proofs.YteeembildppgmaaGreat
