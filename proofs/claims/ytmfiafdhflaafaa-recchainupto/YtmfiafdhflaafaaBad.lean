/- 'bad': is a number of the record below 0, or above 2^62? -/
import Derived.Test.YtmfiafdhflaafaaAwake
namespace Go.Proofs.Ytmfiafdhflaafaa
open Go.RowKit
set_option linter.unusedVariables false
set_option linter.unusedSimpArgs false

def txNums (l : List (Int × Int × Int)) : List Int := l.flatMap fun t => [t.1, t.2.1, t.2.2]
def dtNums (l : List (Int × Int)) : List Int := l.flatMap fun t => [t.1, t.2]
def Rc.firsts (R : Rc) : List Int := [R.kind, R.txn, R.prev, R.next, R.page, R.off, R.count]
def Rc.nums (R : Rc) : List Int := R.firsts ++ txNums R.txns ++ dtNums R.dirty
def badNum (x : Int) : Bool := decide (x < 0) || decide (4611686018427387904 < x)
def badB (R : Rc) : Bool := R.nums.any badNum
theorem badNum_fits (x : Int) : badNum x = false ↔ fits x := by
  unfold badNum fits
  simp
theorem good_of {R : Rc} (h : badB R = false) : R.good := by
  have hall : ∀ x ∈ R.nums, fits x := fun x hx => (badNum_fits x).1 (by
    have := List.any_eq_false.1 h x hx
    simpa using this)
  refine ⟨fun x hx => hall x ?_, fun t ht => ⟨hall _ ?_, hall _ ?_, hall _ ?_⟩, fun t ht => ⟨hall _ ?_, hall _ ?_⟩, hall _ ?_⟩
  · simp only [Rc.head] at hx
    simp only [Rc.nums, Rc.firsts, List.mem_append]
    left; left
    simp at hx ⊢
    omega
  · simp only [Rc.nums, List.mem_append, txNums, List.mem_flatMap]; exact .inl (.inr ⟨t, ht, by simp⟩)
  · simp only [Rc.nums, List.mem_append, txNums, List.mem_flatMap]; exact .inl (.inr ⟨t, ht, by simp⟩)
  · simp only [Rc.nums, List.mem_append, txNums, List.mem_flatMap]; exact .inl (.inr ⟨t, ht, by simp⟩)
  · simp only [Rc.nums, List.mem_append, dtNums, List.mem_flatMap]; exact .inr ⟨t, ht, by simp⟩
  · simp only [Rc.nums, List.mem_append, dtNums, List.mem_flatMap]; exact .inr ⟨t, ht, by simp⟩
  · simp [Rc.nums, Rc.firsts]
theorem txNums_snoc (l : List (Int × Int × Int)) (t : Int × Int × Int) : txNums (l ++ [t]) = txNums l ++ [t.1, t.2.1, t.2.2] := by simp [txNums]
theorem dtNums_snoc (l : List (Int × Int)) (t : Int × Int) : dtNums (l ++ [t]) = dtNums l ++ [t.1, t.2] := by simp [dtNums]
theorem length_txNums : ∀ l, (txNums l).length = 3 * l.length
  | [] => rfl
  | x :: r => by have := length_txNums r; simp only [txNums, List.flatMap_cons, List.length_append, List.length_cons, List.length_nil] at this ⊢; omega
theorem length_dtNums : ∀ l, (dtNums l).length = 2 * l.length
  | [] => rfl
  | x :: r => by have := length_dtNums r; simp only [dtNums, List.flatMap_cons, List.length_append, List.length_cons, List.length_nil] at this ⊢; omega

/-- Where 'bad' is: w the world at the call, q the record's block, v the row of numbers so far. -/
structure BadAt (w wk : World) (q : Nat) (C : Array Value) (v : Value) (l : List Int) : Prop where
  below : Below w.heap.size w wk
  cell : wk.heap[q]? = some (.cells C 28 (0, 0))
  own : wk.ownsRow w.heap.size 3 1 v l.length (intCells l)
theorem length_intCells (l : List Int) : (intCells l).length = l.length := by simp [intCells]
theorem intCells_append (a b : List Int) : intCells (a ++ b) = intCells a ++ intCells b := by simp [intCells]
theorem BadAt.len {w a : World} {q : Nat} {C : Array Value} {v : Value} {l : List Int} (h : BadAt w a q C v l) : ∃ ao c, v = .slice ao l.length c := owns_len h.own
/-- .. with more numbers, in a row that lies in a new block. -/
theorem BadAt.grown {w a b : World} {q : Nat} {C : Array Value} {v v' : Value} {l m : List Int} (h : BadAt w a q C v l) (ho : b.ownsRow w.heap.size 3 1 v' (l.length + m.length) (intCells l ++ intCells m)) (hg : (a.drew.alloc (.cells (intCells m).toArray 3)).grownBy b v.ownBlock) : BadAt w b q C v' (l ++ m) := by
  have hb : Below a.heap.size a (a.drew.alloc (.cells (intCells m).toArray 3)) := ((Below.refl _ a).drew).alloc (Nat.le_refl _) _
  refine ⟨(h.below.trans (hb.mono h.below.size)).grown hg (by have := h.below.size; have := hb.size; omega) (fun k hk => (h.own.lt k hk).1), ?_, by rw [List.length_append, intCells_append]; exact ho⟩
  have hq := lt_of_heap h.cell
  rw [hg.block q (by simp; omega) (fun e => owns_ne h.own h.cell (by decide) e.symm), hb.block q hq]
  exact h.cell
theorem BadAt.there {w a : World} {q : Nat} {C : Array Value} {v : Value} {l : List Int} (h : BadAt w a q C v l) (m : List Int) : (a.drew.alloc (.cells (intCells m).toArray 3)).ownsRow w.heap.size 3 1 v l.length (intCells l) :=
  owns_below h.own (((Below.refl _ a).drew).alloc (Nat.le_refl _) _) (Nat.le_refl _)
theorem row_ints (w : World) (m : List Int) (hm : m.length ≤ 100) : Row (w.alloc (.cells (intCells m).toArray 3)) (.slice (some ⟨w.heap.size, 0, none⟩) m.length m.length) m.length (intCells m) :=
  ⟨_, _, rfl, Nat.le_refl _, by simp only [maxLen]; omega, fun _ => ⟨w.heap.size, 0, rfl, fun i u hu => by
    rw [Nat.zero_add, cell_row (heap_alloc_new w _)]; simpa using hu⟩⟩
theorem one_intCells (l : List Int) : ∀ v ∈ intCells l, v.oneCell' = true := by
  intro v hv
  obtain ⟨b, _, rfl⟩ := List.mem_map.1 hv
  rfl
theorem run_load3 (w : World) (q o : Nat) (cv : Value) (h : w.cell? ⟨q, o, none⟩ = some cv) : (Instr.loadAt 3 (.pointer (some ⟨q, o, none⟩))).run Try.prog w = .ok cv w := by
  have hu := Try.underlying3
  simp [go_sem, h]
theorem load_next3 (W : World) (q o : Nat) (cv : Value) (h : W.cell? ⟨q, o, none⟩ = some cv) : (do pure (Next.value (← Instr.loadAt 3 (.pointer (some ⟨q, o, none⟩)))) : Sem Next).run Try.prog W = .ok (.value cv) W := by
  rw [Sem.run_bind, run_load3 W q o _ h]; rfl
theorem load_next25 (W : World) (q o : Nat) (cv : Value) (h : W.cell? ⟨q, o, none⟩ = some cv) : (do pure (Next.value (← Instr.loadAt 25 (.pointer (some ⟨q, o, none⟩)))) : Sem Next).run Try.prog W = .ok (.value cv) W := by
  rw [Sem.run_bind, run_load25 W q o _ h]; rfl
theorem load_next26 (W : World) (q o : Nat) (cv : Value) (h : W.cell? ⟨q, o, none⟩ = some cv) : (do pure (Next.value (← Instr.loadAt 26 (.pointer (some ⟨q, o, none⟩)))) : Sem Next).run Try.prog W = .ok (.value cv) W := by
  rw [Sem.run_bind, run_load26 W q o _ h]; rfl
theorem index_next25 (W : World) (b o n cap i : Nat) (h : i < n) : (do pure (Next.value (← Instr.indexAt 25 (.slice (some ⟨b, o, none⟩) n cap) (.int .i64 (i : Int)))) : Sem Next).run Try.prog W = .ok (.value (.pointer (some ⟨b, o + i * 3, none⟩))) W := by
  have hu := Try.underlying25
  have hs : (Try.prog.info? 43).map (·.size) = some 3 := by kernel_rfl
  obtain ⟨t, ht, hz⟩ := Option.map_eq_some_iff.1 hs
  have hlt : (i : Int) < n := by omega
  have hr : (Instr.indexAt 25 (.slice (some ⟨b, o, none⟩) n cap) (.int .i64 (i : Int))).run Try.prog W = .ok (.pointer (some ⟨b, o + i * 3, none⟩)) W := by
    simp [Instr.indexAt, asIntOf, run_underlying hu, sizeOf, typeInfo, ht, hz, hlt, Addr.add_mid]
    intro h2
    omega
  rw [Sem.run_bind, hr]; rfl
theorem index_next26 (W : World) (b o n cap i : Nat) (h : i < n) : (do pure (Next.value (← Instr.indexAt 26 (.slice (some ⟨b, o, none⟩) n cap) (.int .i64 (i : Int)))) : Sem Next).run Try.prog W = .ok (.value (.pointer (some ⟨b, o + i * 2, none⟩))) W := by
  have hu := Try.underlying26
  have hs : (Try.prog.info? 45).map (·.size) = some 2 := by kernel_rfl
  obtain ⟨t, ht, hz⟩ := Option.map_eq_some_iff.1 hs
  have hlt : (i : Int) < n := by omega
  have hr : (Instr.indexAt 26 (.slice (some ⟨b, o, none⟩) n cap) (.int .i64 (i : Int))).run Try.prog W = .ok (.pointer (some ⟨b, o + i * 2, none⟩)) W := by
    simp [Instr.indexAt, asIntOf, run_underlying hu, sizeOf, typeInfo, ht, hz, hlt, Addr.add_mid]
    intro h2
    omega
  rw [Sem.run_bind, hr]; rfl
theorem Try.built46_3 (a b c : Int) (w : World) : (Instr.buildSlice 46 3 #[(0, .int .i64 a), (1, .int .i64 b), (2, .int .i64 c)]).run Try.prog w = .ok (.slice (some ⟨w.heap.size, 0, none⟩) 3 3) (w.alloc (.cells (intCells [a, b, c]).toArray 3)) := by kernel_rfl
theorem Try.built46_2 (a b : Int) (w : World) : (Instr.buildSlice 46 2 #[(0, .int .i64 a), (1, .int .i64 b)]).run Try.prog w = .ok (.slice (some ⟨w.heap.size, 0, none⟩) 2 2) (w.alloc (.cells (intCells [a, b]).toArray 3)) := by kernel_rfl
theorem buildSlice_op3 (ρ : Operand → Value) (o : Oper) (t : TypeId) (len i j k : Nat) (x y z : Operand) (ho : o.op = .buildSlice t len #[(i, x), (j, y), (k, z)]) (v1 v2 v3 : Value) (hx : ρ x = v1) (hy : ρ y = v2) (hz : ρ z = v3) :
    execOp ρ o = (do pure (Next.value (← Instr.buildSlice t len #[(i, v1), (j, v2), (k, v3)]))) := by
  unfold execOp
  simp [ho, hx, hy, hz]
theorem buildSlice_op2 (ρ : Operand → Value) (o : Oper) (t : TypeId) (len i j : Nat) (x y : Operand) (ho : o.op = .buildSlice t len #[(i, x), (j, y)]) (v1 v2 : Value) (hx : ρ x = v1) (hy : ρ y = v2) :
    execOp ρ o = (do pure (Next.value (← Instr.buildSlice t len #[(i, v1), (j, v2)]))) := by
  unfold execOp
  simp [ho, hx, hy]
theorem any_take_succ (l : List Int) (p : Int → Bool) (j : Nat) (h : j < l.length) : (l.take (j + 1)).any p = ((l.take j).any p || p (l.getD j 0)) := by
  rw [List.take_succ_eq_append_getElem h, List.any_append]
  simp [h]
theorem any_of_at (l : List Int) (p : Int → Bool) (j : Nat) (h : j < l.length) (hp : p (l.getD j 0) = true) : l.any p = true := by
  rw [List.any_eq_true]
  exact ⟨l[j], List.getElem_mem h, by simpa [h] using hp⟩

set_option maxHeartbeats 4000000 in
set_option maxRecDepth 100000 in
theorem bad_any {w : World} {V : Value} {R : Rc} (hV : RecVal w V R) (hs : R.size ≤ 100000000000) :
    Calls Try.prog 8 #[V] w fun e w' => e = .returned (.bool (badB R)) ∧ Below w.heap.size w w' := by
  obtain ⟨vb, va, vt, vd, rfl, h1, h2, h3, h4⟩ := hV
  obtain ⟨ab, cb, rfl, b1, b2⟩ := h1.len
  obtain ⟨aa, ca, rfl, a1, a2⟩ := h2.len
  obtain ⟨at', ct, rfl, t1, t2⟩ := h3.len
  obtain ⟨ad, cd, rfl, d1, d2⟩ := h4.len
  have hs' : 96 + R.before.length + R.after.length + 24 * R.txns.length + 16 * R.dirty.length ≤ 100000000000 := hs
  simp only [maxLen] at b2 a2 t2 d2
  have HSS := hide hs'
  have H3 := hide h3
  have H4 := hide h4
  have hb0 : Below w.heap.size w ((w.alloc (.cells #[.int .i64 R.kind, .int .i64 R.txn, .int .i64 R.prev, .int .i64 R.next, .int .i64 R.page, .int .i64 R.off, .slice ab R.before.length cb, .slice aa R.after.length ca, .slice at' R.txns.length ct, .slice ad R.dirty.length cd, .int .i64 R.count] 28)).alloc (.cells #[.int .i64 R.kind, .int .i64 R.txn, .int .i64 R.prev, .int .i64 R.next, .int .i64 R.page, .int .i64 R.off, .int .i64 R.count] 3)) := ((Below.refl _ w).alloc (Nat.le_refl _) _).alloc (by simp) _
  have A0 : BadAt w ((w.alloc (.cells #[.int .i64 R.kind, .int .i64 R.txn, .int .i64 R.prev, .int .i64 R.next, .int .i64 R.page, .int .i64 R.off, .slice ab R.before.length cb, .slice aa R.after.length ca, .slice at' R.txns.length ct, .slice ad R.dirty.length cd, .int .i64 R.count] 28)).alloc (.cells #[.int .i64 R.kind, .int .i64 R.txn, .int .i64 R.prev, .int .i64 R.next, .int .i64 R.page, .int .i64 R.off, .int .i64 R.count] 3)) w.heap.size #[.int .i64 R.kind, .int .i64 R.txn, .int .i64 R.prev, .int .i64 R.next, .int .i64 R.page, .int .i64 R.off, .slice ab R.before.length cb, .slice aa R.after.length ca, .slice at' R.txns.length ct, .slice ad R.dirty.length cd, .int .i64 R.count] (.slice (some ⟨w.heap.size + 1, 0, none⟩) 7 7) R.firsts := by
    refine ⟨hb0, by rw [Below.heap_alloc _ _ _ (by simp)]; exact heap_alloc_new _ _, rfl, .inr ⟨w.heap.size + 1, 7, #[.int .i64 R.kind, .int .i64 R.txn, .int .i64 R.prev, .int .i64 R.next, .int .i64 R.page, .int .i64 R.off, .int .i64 R.count], rfl, by omega, ?_, Nat.le_refl _, by simp only [maxLen]; omega, rfl, rfl⟩⟩
    have := heap_alloc_new (w.alloc (.cells #[.int .i64 R.kind, .int .i64 R.txn, .int .i64 R.prev, .int .i64 R.next, .int .i64 R.page, .int .i64 R.off, .slice ab R.before.length cb, .slice aa R.after.length ca, .slice at' R.txns.length ct, .slice ad R.dirty.length cd, .int .i64 R.count] 28)) (.cells #[.int .i64 R.kind, .int .i64 R.txn, .int .i64 R.prev, .int .i64 R.next, .int .i64 R.page, .int .i64 R.off, .int .i64 R.count] 3)
    rw [show (w.alloc (.cells #[.int .i64 R.kind, .int .i64 R.txn, .int .i64 R.prev, .int .i64 R.next, .int .i64 R.page, .int .i64 R.off, .slice ab R.before.length cb, .slice aa R.after.length ca, .slice at' R.txns.length ct, .slice ad R.dirty.length cd, .int .i64 R.count] 28)).heap.size = w.heap.size + 1 by simp] at this
    exact this
  have HA0 := hide A0
  clear hb0 A0 h1 h2 h3 h4 hs hs' b1 a1 t1 d1
  have ht62 : (R.txns.length : Int) ≤ 100000000000 := by have := HSS.out; omega
  have hd62 : (R.dirty.length : Int) ≤ 100000000000 := by have := HSS.out; omega
  unfold recCells
  go_enter Try.func8, Try.ntmps8
  go_wp2
  obtain ⟨w1, hw1⟩ : ∃ w1, (w.alloc (.cells #[.int .i64 R.kind, .int .i64 R.txn, .int .i64 R.prev, .int .i64 R.next, .int .i64 R.page, .int .i64 R.off, .slice ab R.before.length cb, .slice aa R.after.length ca, .slice at' R.txns.length ct, .slice ad R.dirty.length cd, .int .i64 R.count] 28)).alloc (.cells #[.int .i64 R.kind, .int .i64 R.txn, .int .i64 R.prev, .int .i64 R.next, .int .i64 R.page, .int .i64 R.off, .int .i64 R.count] 3) = w1 := ⟨_, rfl⟩
  rw [hw1] at HA0 ⊢
  clear hw1
  obtain ⟨q, hq⟩ : ∃ q, w.heap.size = q := ⟨_, rfl⟩
  have HQQ := hide hq
  have HA1 : Hid (BadAt w w1 q #[.int .i64 R.kind, .int .i64 R.txn, .int .i64 R.prev, .int .i64 R.next, .int .i64 R.page, .int .i64 R.off, .slice ab R.before.length cb, .slice aa R.after.length ca, .slice at' R.txns.length ct, .slice ad R.dirty.length cd, .int .i64 R.count] (.slice (some ⟨w.heap.size + 1, 0, none⟩) 7 7) R.firsts) := by have := HA0.out; rw [hq] at this ⊢; exact this
  rw [hq] at HA1 ⊢
  clear hq HA0
  go_loopw [3, 4] (fun b i wr => ∃ j : Nat, j ≤ R.txns.length ∧ i = .int .i64 j ∧ BadAt w wr q #[.int .i64 R.kind, .int .i64 R.txn, .int .i64 R.prev, .int .i64 R.next, .int .i64 R.page, .int .i64 R.off, .slice ab R.before.length cb, .slice aa R.after.length ca, .slice at' R.txns.length ct, .slice ad R.dirty.length cd, .int .i64 R.count] b (R.firsts ++ txNums (R.txns.take j))) (fun _ i _ => R.txns.length - (intOf i).toNat)
  case atStart => exact ⟨0, by omega, rfl, by simpa [txNums] using HA1.out⟩
  case round =>
    obtain ⟨j, hj, rfl, A⟩ := hrel
    have k8 : wr.cell? ⟨q, 8, none⟩ = some (.slice at' R.txns.length ct) := by rw [cell_row A.cell]; rfl
    obtain ⟨av, cv, hvj⟩ := A.len
    by_cases hlt : j < R.txns.length
    · obtain ⟨gt, ot, eat, hgt, t0, t1', t2'⟩ := tx_at H3.out j hlt
      have x0 := ((A.below).cell (p := ⟨gt, ot + j * 3, none⟩) hgt).trans t0
      have x1 := ((A.below).cell (p := ⟨gt, ot + j * 3 + 1, none⟩) hgt).trans t1'
      have x2 := ((A.below).cell (p := ⟨gt, ot + j * 3 + 2, none⟩) hgt).trans t2'
      have HE : Hid (R.firsts ++ txNums (R.txns.take (j + 1)) = (R.firsts ++ txNums (R.txns.take j)) ++ [(R.txns.getD j (0, 0, 0)).1, (R.txns.getD j (0, 0, 0)).2.1, (R.txns.getD j (0, 0, 0)).2.2]) := by
        show _ = _
        have e : R.txns.getD j (0, 0, 0) = R.txns[j] := by simp [hlt]
        rw [e, List.take_succ_eq_append_getElem hlt, txNums_snoc, List.append_assoc]
      have HLL : Hid ((R.firsts ++ txNums (R.txns.take j)).length ≤ 1000000000000) := by show _ ≤ _; rw [List.length_append, length_txNums, List.length_take]; have := HSS.out; simp [Rc.firsts]; omega
      generalize R.txns.getD j (0, 0, 0) = X at *
      obtain ⟨xa, xb, xc⟩ := X
      have HA := hide A
      have hgr : gt < wr.heap.size := Nat.lt_of_lt_of_le hgt A.below.size
      have hql : q < wr.heap.size := lt_of_heap A.cell
      have HOWNB := hide ((A.own.lt))
      have HNQ := hide (owns_ne A.own A.cell (by decide))
      have HWS := hide A.below.size
      clear A t0 t1' t2' HA1
      generalize R.firsts ++ txNums (R.txns.take j) = B at *
      obtain ⟨L, hL⟩ : ∃ L, B.length = L := ⟨_, rfl⟩
      rw [hL] at hvj
      have HL := hide hL
      clear hL
      subst hvj eat
      go_wp2
      refine wp_region_held_drew (S := fun w' => w'.cell? ⟨q, 8, none⟩ = some (.slice (some ⟨gt, ot, none⟩) R.txns.length ct) ∧ w'.cell? ⟨gt, ot + j * 3, none⟩ = some (.int .i64 xa) ∧ w'.cell? ⟨gt, ot + j * 3 + 1, none⟩ = some (.int .i64 xb) ∧ w'.cell? ⟨gt, ot + j * 3 + 2, none⟩ = some (.int .i64 xc)) (by kernel_rfl) ⟨k8, x0, x1, x2⟩ (fun hH => ?_)
      refine take_to 0 29 (.slice av L cv) rfl (by kernel_rfl) (by kernel_rfl) (by kernel_rfl) (fun _ _ _ h => h) rfl (by rfl) (fun w _ => by rfl) hH ?_
      simp only [Act.put, List.setIfInBounds_toArray, List.set_cons_zero, List.set_cons_succ]
      refine take_to 1 30 (.pointer (some ⟨q, 8, none⟩)) rfl (by kernel_rfl) (by kernel_rfl) (by kernel_rfl) (fun _ _ _ h => h) rfl (by rfl) (fun w _ => by kernel_rfl) hH ?_
      simp only [Act.put, List.setIfInBounds_toArray, List.set_cons_zero, List.set_cons_succ]
      refine take_to 2 31 (.slice (some ⟨gt, ot, none⟩) R.txns.length ct) rfl (by kernel_rfl) (by kernel_rfl) (by kernel_rfl) (fun _ _ _ h => h) rfl (by rfl) (fun W hW => by exact load_next25 W q 8 _ hW.1) hH ?_
      simp only [Act.put, List.setIfInBounds_toArray, List.set_cons_zero, List.set_cons_succ]
      refine take_to 3 32 (.int .i64 (j : Int)) rfl (by kernel_rfl) (by kernel_rfl) (by kernel_rfl) (fun _ _ _ h => h) rfl (by rfl) (fun w _ => by rfl) hH ?_
      simp only [Act.put, List.setIfInBounds_toArray, List.set_cons_zero, List.set_cons_succ]
      refine take_to 4 33 (.pointer (some ⟨gt, ot + j * 3, none⟩)) rfl (by kernel_rfl) (by kernel_rfl) (by kernel_rfl) (fun _ _ _ h => h) rfl (by rfl) (fun W _ => by exact index_next25 W gt ot R.txns.length _ j hlt) hH ?_
      simp only [Act.put, List.setIfInBounds_toArray, List.set_cons_zero, List.set_cons_succ]
      refine take_to 5 34 (.pointer (some ⟨gt, ot + j * 3, none⟩)) rfl (by kernel_rfl) (by kernel_rfl) (by kernel_rfl) (fun _ _ _ h => h) rfl (by rfl) (fun w _ => by kernel_rfl) hH ?_
      simp only [Act.put, List.setIfInBounds_toArray, List.set_cons_zero, List.set_cons_succ]
      refine take_to 6 35 (.int .i64 xa) rfl (by kernel_rfl) (by kernel_rfl) (by kernel_rfl) (fun _ _ _ h => h) rfl (by rfl) (fun W hW => by exact load_next3 W gt (ot + j * 3) _ (hW.2.1)) hH ?_
      simp only [Act.put, List.setIfInBounds_toArray, List.set_cons_zero, List.set_cons_succ]
      refine take_to 7 36 (.pointer (some ⟨q, 8, none⟩)) rfl (by kernel_rfl) (by kernel_rfl) (by kernel_rfl) (fun _ _ _ h => h) rfl (by rfl) (fun w _ => by kernel_rfl) hH ?_
      simp only [Act.put, List.setIfInBounds_toArray, List.set_cons_zero, List.set_cons_succ]
      refine take_to 8 37 (.slice (some ⟨gt, ot, none⟩) R.txns.length ct) rfl (by kernel_rfl) (by kernel_rfl) (by kernel_rfl) (fun _ _ _ h => h) rfl (by rfl) (fun W hW => by exact load_next25 W q 8 _ hW.1) hH ?_
      simp only [Act.put, List.setIfInBounds_toArray, List.set_cons_zero, List.set_cons_succ]
      refine take_to 9 38 (.int .i64 (j : Int)) rfl (by kernel_rfl) (by kernel_rfl) (by kernel_rfl) (fun _ _ _ h => h) rfl (by rfl) (fun w _ => by rfl) hH ?_
      simp only [Act.put, List.setIfInBounds_toArray, List.set_cons_zero, List.set_cons_succ]
      refine take_to 10 39 (.pointer (some ⟨gt, ot + j * 3, none⟩)) rfl (by kernel_rfl) (by kernel_rfl) (by kernel_rfl) (fun _ _ _ h => h) rfl (by rfl) (fun W _ => by exact index_next25 W gt ot R.txns.length _ j hlt) hH ?_
      simp only [Act.put, List.setIfInBounds_toArray, List.set_cons_zero, List.set_cons_succ]
      refine take_to 11 40 (.pointer (some ⟨gt, ot + j * 3 + 1, none⟩)) rfl (by kernel_rfl) (by kernel_rfl) (by kernel_rfl) (fun _ _ _ h => h) rfl (by rfl) (fun w _ => by kernel_rfl) hH ?_
      simp only [Act.put, List.setIfInBounds_toArray, List.set_cons_zero, List.set_cons_succ]
      refine take_to 12 41 (.int .i64 xb) rfl (by kernel_rfl) (by kernel_rfl) (by kernel_rfl) (fun _ _ _ h => h) rfl (by rfl) (fun W hW => by exact load_next3 W gt (ot + j * 3 + 1) _ (hW.2.2.1)) hH ?_
      simp only [Act.put, List.setIfInBounds_toArray, List.set_cons_zero, List.set_cons_succ]
      refine take_to 13 42 (.pointer (some ⟨q, 8, none⟩)) rfl (by kernel_rfl) (by kernel_rfl) (by kernel_rfl) (fun _ _ _ h => h) rfl (by rfl) (fun w _ => by kernel_rfl) hH ?_
      simp only [Act.put, List.setIfInBounds_toArray, List.set_cons_zero, List.set_cons_succ]
      refine take_to 14 43 (.slice (some ⟨gt, ot, none⟩) R.txns.length ct) rfl (by kernel_rfl) (by kernel_rfl) (by kernel_rfl) (fun _ _ _ h => h) rfl (by rfl) (fun W hW => by exact load_next25 W q 8 _ hW.1) hH ?_
      simp only [Act.put, List.setIfInBounds_toArray, List.set_cons_zero, List.set_cons_succ]
      refine take_to 15 44 (.int .i64 (j : Int)) rfl (by kernel_rfl) (by kernel_rfl) (by kernel_rfl) (fun _ _ _ h => h) rfl (by rfl) (fun w _ => by rfl) hH ?_
      simp only [Act.put, List.setIfInBounds_toArray, List.set_cons_zero, List.set_cons_succ]
      refine take_to 16 45 (.pointer (some ⟨gt, ot + j * 3, none⟩)) rfl (by kernel_rfl) (by kernel_rfl) (by kernel_rfl) (fun _ _ _ h => h) rfl (by rfl) (fun W _ => by exact index_next25 W gt ot R.txns.length _ j hlt) hH ?_
      simp only [Act.put, List.setIfInBounds_toArray, List.set_cons_zero, List.set_cons_succ]
      refine take_to 17 46 (.pointer (some ⟨gt, ot + j * 3 + 2, none⟩)) rfl (by kernel_rfl) (by kernel_rfl) (by kernel_rfl) (fun _ _ _ h => h) rfl (by rfl) (fun w _ => by kernel_rfl) hH ?_
      simp only [Act.put, List.setIfInBounds_toArray, List.set_cons_zero, List.set_cons_succ]
      refine take_to 18 47 (.int .i64 xc) rfl (by kernel_rfl) (by kernel_rfl) (by kernel_rfl) (fun _ _ _ h => h) rfl (by rfl) (fun W hW => by exact load_next3 W gt (ot + j * 3 + 2) _ (hW.2.2.2)) hH ?_
      simp only [Act.put, List.setIfInBounds_toArray, List.set_cons_zero, List.set_cons_succ]
      have hS5 : (wr.drew.alloc (.cells (intCells [xa, xb, xc]).toArray 3)).cell? ⟨q, 8, none⟩ = some (.slice (some ⟨gt, ot, none⟩) R.txns.length ct) ∧ (wr.drew.alloc (.cells (intCells [xa, xb, xc]).toArray 3)).cell? ⟨gt, ot + j * 3, none⟩ = some (.int .i64 xa) ∧ (wr.drew.alloc (.cells (intCells [xa, xb, xc]).toArray 3)).cell? ⟨gt, ot + j * 3 + 1, none⟩ = some (.int .i64 xb) ∧ (wr.drew.alloc (.cells (intCells [xa, xb, xc]).toArray 3)).cell? ⟨gt, ot + j * 3 + 2, none⟩ = some (.int .i64 xc) := ⟨by rw [World.cell?_alloc_lt _ _ _ (by exact hql)]; exact k8, by rw [World.cell?_alloc_lt _ _ _ (by exact hgr)]; exact x0, by rw [World.cell?_alloc_lt _ _ _ (by exact hgr)]; exact x1, by rw [World.cell?_alloc_lt _ _ _ (by exact hgr)]; exact x2⟩
      refine step_to 19 48 (.slice (some ⟨wr.heap.size, 0, none⟩) 3 3) (wr.drew.alloc (.cells (intCells [xa, xb, xc]).toArray 3)) rfl (by kernel_rfl) rfl (by rfl) (by rw [buildSlice_op3 _ _ 46 3 0 1 2 (.tmp 35) (.tmp 41) (.tmp 47) rfl (.int .i64 xa) (.int .i64 xb) (.int .i64 xc) rfl rfl rfl, Sem.run_bind, Try.built46_3]; rfl) hS5 ?_
      simp only [Act.put, List.setIfInBounds_toArray, List.set_cons_zero, List.set_cons_succ]
      refine step_append_to 20 49 rfl (by kernel_rfl) rfl rfl (.tmp 29) (.tmp 48) 46 rfl w.heap.size 3 _ 1 8 Try.underlying46 Try.info3 rfl (by omega) (.slice av L cv) B.length (intCells B) _ 3 (intCells [xa, xb, xc]) rfl rfl (HA.out.there [xa, xb, xc]) (row_ints wr.drew [xa, xb, xc] (by simp)) rfl (one_intCells _) (by have := HLL.out; omega) (by have := HLL.out; omega) (by have := HWS.out; simp; omega) (fun v' w6 ho hg => ⟨?_, ?_⟩)
      · have hq6 := hg.block q (by simp; omega) (fun e => HNQ.out e.symm)
        have hg6 := hg.block gt (by simp; omega) (fun e => by have := (HOWNB.out gt e.symm).1; omega)
        exact ⟨(World.cell?_of_block (a := ⟨q, 8, none⟩) hq6).trans hS5.1, (World.cell?_of_block (a := ⟨gt, ot + j * 3, none⟩) hg6).trans (hS5.2.1), (World.cell?_of_block (a := ⟨gt, ot + j * 3 + 1, none⟩) hg6).trans (hS5.2.2.1), (World.cell?_of_block (a := ⟨gt, ot + j * 3 + 2, none⟩) hg6).trans (hS5.2.2.2)⟩
      simp only [Act.put, List.setIfInBounds_toArray, List.set_cons_zero, List.set_cons_succ]
      have A6 := HA.out.grown (m := [xa, xb, xc]) ho hg
      obtain ⟨a6, c6, hv6⟩ := owns_len ho
      have HA6 := hide A6
      have hS6 : w6.cell? ⟨q, 8, none⟩ = some (.slice (some ⟨gt, ot, none⟩) R.txns.length ct) ∧ w6.cell? ⟨gt, ot + j * 3, none⟩ = some (.int .i64 xa) ∧ w6.cell? ⟨gt, ot + j * 3 + 1, none⟩ = some (.int .i64 xb) ∧ w6.cell? ⟨gt, ot + j * 3 + 2, none⟩ = some (.int .i64 xc) := by
        have hq6 := hg.block q (by simp; omega) (fun e => HNQ.out e.symm)
        have hg6 := hg.block gt (by simp; omega) (fun e => by have := (HOWNB.out gt e.symm).1; omega)
        exact ⟨(World.cell?_of_block (a := ⟨q, 8, none⟩) hq6).trans hS5.1, (World.cell?_of_block (a := ⟨gt, ot + j * 3, none⟩) hg6).trans (hS5.2.1), (World.cell?_of_block (a := ⟨gt, ot + j * 3 + 1, none⟩) hg6).trans (hS5.2.2.1), (World.cell?_of_block (a := ⟨gt, ot + j * 3 + 2, none⟩) hg6).trans (hS5.2.2.2)⟩
      subst hv6
      refine step_to 21 3 (.slice a6 (B.length + 3) c6) w6 rfl (by kernel_rfl) rfl (by rfl) rfl hS6 ?_
      simp only [Act.put, List.setIfInBounds_toArray, List.set_cons_zero, List.set_cons_succ]
      refine wpAnyH_done (by kernel_rfl) ?_ _
      clear hS5 hS6 ho hg A6 hH
      generalize B.length + 3 = L6 at *
      go_wp2
      go_roundw
      case rel => exact ⟨j + 1, by omega, by go_num, by rw [HE.out]; exact HA6.out⟩
      case measure => simp [intOf]; omega
    · have hjn : j = R.txns.length := by omega
      subst hjn
      rw [List.take_length] at A hvj
      have HA := hide A
      have HLB : Hid ((R.firsts ++ txNums R.txns).length = 7 + 3 * R.txns.length) := by show _ = _; rw [List.length_append, length_txNums]; rfl
      clear A HA1
      generalize hB : R.firsts ++ txNums R.txns = B at *
      have HB := hide hB
      clear hB
      obtain ⟨L, hL⟩ : ∃ L, B.length = L := ⟨_, rfl⟩
      rw [hL] at hvj
      have HL := hide hL
      clear hL
      subst hvj
      go_wp2
      go_loopw [3, 5] (fun b i wr => ∃ j : Nat, j ≤ R.dirty.length ∧ i = .int .i64 j ∧ BadAt w wr q #[.int .i64 R.kind, .int .i64 R.txn, .int .i64 R.prev, .int .i64 R.next, .int .i64 R.page, .int .i64 R.off, .slice ab R.before.length cb, .slice aa R.after.length ca, .slice at' R.txns.length ct, .slice ad R.dirty.length cd, .int .i64 R.count] b (B ++ dtNums (R.dirty.take j))) (fun _ i _ => R.dirty.length - (intOf i).toNat)
      case atStart => exact ⟨0, by omega, rfl, by simpa [dtNums] using HA.out⟩
      case round =>
        clear HA
        obtain ⟨j, hj, rfl, A⟩ := hrel
        have k9 : wr.cell? ⟨q, 9, none⟩ = some (.slice ad R.dirty.length cd) := by rw [cell_row A.cell]; rfl
        obtain ⟨av, cv, hvj⟩ := A.len
        by_cases hlt : j < R.dirty.length
        · obtain ⟨gt, ot, eat, hgt, t0, t1'⟩ := dt_at H4.out j hlt
          have x0 := ((A.below).cell (p := ⟨gt, ot + j * 2, none⟩) hgt).trans t0
          have x1 := ((A.below).cell (p := ⟨gt, ot + j * 2 + 1, none⟩) hgt).trans t1'
          have HE : Hid (B ++ dtNums (R.dirty.take (j + 1)) = (B ++ dtNums (R.dirty.take j)) ++ [(R.dirty.getD j (0, 0)).1, (R.dirty.getD j (0, 0)).2]) := by
            show _ = _
            have e : R.dirty.getD j (0, 0) = R.dirty[j] := by simp [hlt]
            rw [e, List.take_succ_eq_append_getElem hlt, dtNums_snoc, List.append_assoc]
          have HLL : Hid ((B ++ dtNums (R.dirty.take j)).length ≤ 1000000000000) := by show _ ≤ _; rw [List.length_append, HLB.out, length_dtNums, List.length_take]; have := HSS.out; omega
          generalize R.dirty.getD j (0, 0) = X at *
          obtain ⟨xa, xb⟩ := X
          have HA := hide A
          have hgr : gt < wr.heap.size := Nat.lt_of_lt_of_le hgt A.below.size
          have hql : q < wr.heap.size := lt_of_heap A.cell
          have HOWNB := hide ((A.own.lt))
          have HNQ := hide (owns_ne A.own A.cell (by decide))
          have HWS := hide A.below.size
          clear A t0 t1'
          generalize B ++ dtNums (R.dirty.take j) = B at *
          obtain ⟨L, hL⟩ : ∃ L, B.length = L := ⟨_, rfl⟩
          rw [hL] at hvj
          have HL := hide hL
          clear hL
          subst hvj eat
          go_wp2
          refine wp_region_held_drew (S := fun w' => w'.cell? ⟨q, 9, none⟩ = some (.slice (some ⟨gt, ot, none⟩) R.dirty.length cd) ∧ w'.cell? ⟨gt, ot + j * 2, none⟩ = some (.int .i64 xa) ∧ w'.cell? ⟨gt, ot + j * 2 + 1, none⟩ = some (.int .i64 xb)) (by kernel_rfl) ⟨k9, x0, x1⟩ (fun hH => ?_)
          refine take_to 0 57 (.slice av L cv) rfl (by kernel_rfl) (by kernel_rfl) (by kernel_rfl) (fun _ _ _ h => h) rfl (by rfl) (fun w _ => by rfl) hH ?_
          simp only [Act.put, List.setIfInBounds_toArray, List.set_cons_zero, List.set_cons_succ]
          refine take_to 1 58 (.pointer (some ⟨q, 9, none⟩)) rfl (by kernel_rfl) (by kernel_rfl) (by kernel_rfl) (fun _ _ _ h => h) rfl (by rfl) (fun w _ => by kernel_rfl) hH ?_
          simp only [Act.put, List.setIfInBounds_toArray, List.set_cons_zero, List.set_cons_succ]
          refine take_to 2 59 (.slice (some ⟨gt, ot, none⟩) R.dirty.length cd) rfl (by kernel_rfl) (by kernel_rfl) (by kernel_rfl) (fun _ _ _ h => h) rfl (by rfl) (fun W hW => by exact load_next26 W q 9 _ hW.1) hH ?_
          simp only [Act.put, List.setIfInBounds_toArray, List.set_cons_zero, List.set_cons_succ]
          refine take_to 3 60 (.int .i64 (j : Int)) rfl (by kernel_rfl) (by kernel_rfl) (by kernel_rfl) (fun _ _ _ h => h) rfl (by rfl) (fun w _ => by rfl) hH ?_
          simp only [Act.put, List.setIfInBounds_toArray, List.set_cons_zero, List.set_cons_succ]
          refine take_to 4 61 (.pointer (some ⟨gt, ot + j * 2, none⟩)) rfl (by kernel_rfl) (by kernel_rfl) (by kernel_rfl) (fun _ _ _ h => h) rfl (by rfl) (fun W _ => by exact index_next26 W gt ot R.dirty.length _ j hlt) hH ?_
          simp only [Act.put, List.setIfInBounds_toArray, List.set_cons_zero, List.set_cons_succ]
          refine take_to 5 62 (.pointer (some ⟨gt, ot + j * 2, none⟩)) rfl (by kernel_rfl) (by kernel_rfl) (by kernel_rfl) (fun _ _ _ h => h) rfl (by rfl) (fun w _ => by kernel_rfl) hH ?_
          simp only [Act.put, List.setIfInBounds_toArray, List.set_cons_zero, List.set_cons_succ]
          refine take_to 6 63 (.int .i64 xa) rfl (by kernel_rfl) (by kernel_rfl) (by kernel_rfl) (fun _ _ _ h => h) rfl (by rfl) (fun W hW => by exact load_next3 W gt (ot + j * 2) _ (hW.2.1)) hH ?_
          simp only [Act.put, List.setIfInBounds_toArray, List.set_cons_zero, List.set_cons_succ]
          refine take_to 7 64 (.pointer (some ⟨q, 9, none⟩)) rfl (by kernel_rfl) (by kernel_rfl) (by kernel_rfl) (fun _ _ _ h => h) rfl (by rfl) (fun w _ => by kernel_rfl) hH ?_
          simp only [Act.put, List.setIfInBounds_toArray, List.set_cons_zero, List.set_cons_succ]
          refine take_to 8 65 (.slice (some ⟨gt, ot, none⟩) R.dirty.length cd) rfl (by kernel_rfl) (by kernel_rfl) (by kernel_rfl) (fun _ _ _ h => h) rfl (by rfl) (fun W hW => by exact load_next26 W q 9 _ hW.1) hH ?_
          simp only [Act.put, List.setIfInBounds_toArray, List.set_cons_zero, List.set_cons_succ]
          refine take_to 9 66 (.int .i64 (j : Int)) rfl (by kernel_rfl) (by kernel_rfl) (by kernel_rfl) (fun _ _ _ h => h) rfl (by rfl) (fun w _ => by rfl) hH ?_
          simp only [Act.put, List.setIfInBounds_toArray, List.set_cons_zero, List.set_cons_succ]
          refine take_to 10 67 (.pointer (some ⟨gt, ot + j * 2, none⟩)) rfl (by kernel_rfl) (by kernel_rfl) (by kernel_rfl) (fun _ _ _ h => h) rfl (by rfl) (fun W _ => by exact index_next26 W gt ot R.dirty.length _ j hlt) hH ?_
          simp only [Act.put, List.setIfInBounds_toArray, List.set_cons_zero, List.set_cons_succ]
          refine take_to 11 68 (.pointer (some ⟨gt, ot + j * 2 + 1, none⟩)) rfl (by kernel_rfl) (by kernel_rfl) (by kernel_rfl) (fun _ _ _ h => h) rfl (by rfl) (fun w _ => by kernel_rfl) hH ?_
          simp only [Act.put, List.setIfInBounds_toArray, List.set_cons_zero, List.set_cons_succ]
          refine take_to 12 69 (.int .i64 xb) rfl (by kernel_rfl) (by kernel_rfl) (by kernel_rfl) (fun _ _ _ h => h) rfl (by rfl) (fun W hW => by exact load_next3 W gt (ot + j * 2 + 1) _ (hW.2.2)) hH ?_
          simp only [Act.put, List.setIfInBounds_toArray, List.set_cons_zero, List.set_cons_succ]
          have hS5 : (wr.drew.alloc (.cells (intCells [xa, xb]).toArray 3)).cell? ⟨q, 9, none⟩ = some (.slice (some ⟨gt, ot, none⟩) R.dirty.length cd) ∧ (wr.drew.alloc (.cells (intCells [xa, xb]).toArray 3)).cell? ⟨gt, ot + j * 2, none⟩ = some (.int .i64 xa) ∧ (wr.drew.alloc (.cells (intCells [xa, xb]).toArray 3)).cell? ⟨gt, ot + j * 2 + 1, none⟩ = some (.int .i64 xb) := ⟨by rw [World.cell?_alloc_lt _ _ _ (by exact hql)]; exact k9, by rw [World.cell?_alloc_lt _ _ _ (by exact hgr)]; exact x0, by rw [World.cell?_alloc_lt _ _ _ (by exact hgr)]; exact x1⟩
          refine step_to 13 70 (.slice (some ⟨wr.heap.size, 0, none⟩) 2 2) (wr.drew.alloc (.cells (intCells [xa, xb]).toArray 3)) rfl (by kernel_rfl) rfl (by rfl) (by rw [buildSlice_op2 _ _ 46 2 0 1 (.tmp 63) (.tmp 69) rfl (.int .i64 xa) (.int .i64 xb) rfl rfl, Sem.run_bind, Try.built46_2]; rfl) hS5 ?_
          simp only [Act.put, List.setIfInBounds_toArray, List.set_cons_zero, List.set_cons_succ]
          refine step_append_to 14 71 rfl (by kernel_rfl) rfl rfl (.tmp 57) (.tmp 70) 46 rfl w.heap.size 3 _ 1 8 Try.underlying46 Try.info3 rfl (by omega) (.slice av L cv) B.length (intCells B) _ 2 (intCells [xa, xb]) rfl rfl (HA.out.there [xa, xb]) (row_ints wr.drew [xa, xb] (by simp)) rfl (one_intCells _) (by have := HLL.out; omega) (by have := HLL.out; omega) (by have := HWS.out; simp; omega) (fun v' w6 ho hg => ⟨?_, ?_⟩)
          · have hq6 := hg.block q (by simp; omega) (fun e => HNQ.out e.symm)
            have hg6 := hg.block gt (by simp; omega) (fun e => by have := (HOWNB.out gt e.symm).1; omega)
            exact ⟨(World.cell?_of_block (a := ⟨q, 9, none⟩) hq6).trans hS5.1, (World.cell?_of_block (a := ⟨gt, ot + j * 2, none⟩) hg6).trans (hS5.2.1), (World.cell?_of_block (a := ⟨gt, ot + j * 2 + 1, none⟩) hg6).trans (hS5.2.2)⟩
          simp only [Act.put, List.setIfInBounds_toArray, List.set_cons_zero, List.set_cons_succ]
          have A6 := HA.out.grown (m := [xa, xb]) ho hg
          obtain ⟨a6, c6, hv6⟩ := owns_len ho
          have HA6 := hide A6
          have hS6 : w6.cell? ⟨q, 9, none⟩ = some (.slice (some ⟨gt, ot, none⟩) R.dirty.length cd) ∧ w6.cell? ⟨gt, ot + j * 2, none⟩ = some (.int .i64 xa) ∧ w6.cell? ⟨gt, ot + j * 2 + 1, none⟩ = some (.int .i64 xb) := by
            have hq6 := hg.block q (by simp; omega) (fun e => HNQ.out e.symm)
            have hg6 := hg.block gt (by simp; omega) (fun e => by have := (HOWNB.out gt e.symm).1; omega)
            exact ⟨(World.cell?_of_block (a := ⟨q, 9, none⟩) hq6).trans hS5.1, (World.cell?_of_block (a := ⟨gt, ot + j * 2, none⟩) hg6).trans (hS5.2.1), (World.cell?_of_block (a := ⟨gt, ot + j * 2 + 1, none⟩) hg6).trans (hS5.2.2)⟩
          subst hv6
          refine step_to 15 3 (.slice a6 (B.length + 2) c6) w6 rfl (by kernel_rfl) rfl (by rfl) rfl hS6 ?_
          simp only [Act.put, List.setIfInBounds_toArray, List.set_cons_zero, List.set_cons_succ]
          refine wpAnyH_done (by kernel_rfl) ?_ _
          clear hS5 hS6 ho hg A6 hH
          generalize B.length + 2 = L6 at *
          go_wp2
          go_roundw
          case rel => exact ⟨j + 1, by omega, by go_num, by rw [HE.out]; exact HA6.out⟩
          case measure => simp [intOf]; omega
        · have hjn : j = R.dirty.length := by omega
          subst hjn
          rw [List.take_length] at A hvj
          have hfin : B ++ dtNums R.dirty = R.nums := by rw [← HB.out]; rfl
          rw [hfin] at A hvj
          have hln : R.nums.length ≤ 1000000000000 := by rw [← hfin, List.length_append, HLB.out, length_dtNums]; have := HSS.out; omega
          have hl7 : 7 ≤ R.nums.length := by rw [← hfin, List.length_append, HLB.out]; omega
          have hbad : badB R = R.nums.any badNum := rfl
          have HBD := hide hbad
          have HBE := hide A.below
          obtain ⟨g, o, ev, hrow⟩ : ∃ g o, av = some ⟨g, o, none⟩ ∧ wr.rangeAt g o (intCells R.nums) := by
            obtain ⟨ao', c', e, _, _, h⟩ := Row.of_owns A.own
            rw [hvj] at e
            injection e with e1 e2 e3
            subst e1
            exact h (fun h0 => by have := length_intCells R.nums; rw [h0] at this; simp at this; omega)
          have HROW := hide hrow
          subst hvj ev
          clear A hrow hbad hfin HB
          generalize R.nums = N at *
          go_wp2
          go_loop [6] (fun i => ∃ j : Nat, j ≤ N.length ∧ i = .int .i64 j ∧ (N.take j).any badNum = false) (fun i => N.length - (intOf i).toNat)
          case atStart => exact ⟨0, by omega, rfl, by simp⟩
          case round =>
            obtain ⟨j, hj, rfl, hany⟩ := hrel
            have HANY := hide hany
            clear hany
            by_cases hlt : j < N.length
            · have hcell : wr.cell? ⟨g, o + j, none⟩ = some (.int .i64 (N.getD j 0)) := HROW.out j _ (by simp [intCells, icell, hlt])
              have HNX := hide (any_take_succ N badNum j hlt)
              have HAT := hide (any_of_at N badNum j hlt)
              generalize N.getD j 0 = x at *
              by_cases hx0 : x < 0
              · have hT : badB R = true := by rw [HBD.out]; exact HAT.out (by simp [badNum, hx0])
                have HTF := hide hT
                clear hT
                go_wp2
                go_ret
                exact ⟨by rw [HTF.out]; rfl, HBE.out⟩
              · by_cases hx1 : 4611686018427387904 < x
                · have hT : badB R = true := by rw [HBD.out]; exact HAT.out (by simp [badNum, hx1])
                  have HTF := hide hT
                  clear hT
                  go_wp2
                  go_ret
                  exact ⟨by rw [HTF.out]; rfl, HBE.out⟩
                · go_wp2
                  go_round
                  case rel => exact ⟨j + 1, by omega, by go_num, by rw [HNX.out, HANY.out]; simp [badNum]; omega⟩
                  case measure => simp [intOf]; omega
            · have hjn : j = N.length := by omega
              subst hjn
              have hF : badB R = false := by rw [HBD.out]; have := HANY.out; rwa [List.take_length] at this
              have HTF := hide hF
              clear hF
              go_wp2
              go_ret
              exact ⟨by rw [HTF.out]; rfl, HBE.out⟩
end Go.Proofs.Ytmfiafdhflaafaa
