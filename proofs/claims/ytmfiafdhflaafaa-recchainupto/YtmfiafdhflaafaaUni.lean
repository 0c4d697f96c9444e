/- What both Decodes tell, whether there is a record or not; its numbers fit. -/
import Derived.Test.YtmfiafdhflaafaaRefDec
namespace Go.Proofs.Ytmfiafdhflaafaa
open Go.RowKit
set_option linter.unusedVariables false
set_option linter.unusedSimpArgs false

theorem getNums_fits : ∀ (k : Nat) {r r' : List UInt8} {l : List Int}, getNums k r = some (l, r') → ∀ x ∈ l, fits x
  | 0, r, r', l, h => by
    simp only [getNums, Option.some.injEq, Prod.mk.injEq] at h
    obtain ⟨rfl, rfl⟩ := h
    simp
  | k + 1, r, r', l, h => by
    obtain ⟨n, r1, l1, h1, h2, rfl⟩ := getNums_step h
    intro x hx
    rcases List.mem_cons.1 hx with rfl | hx
    · have := getNum_len h1; exact ⟨this.2.1, this.2.2.1⟩
    · exact getNums_fits k h2 x hx
theorem getTx_fits {r r' : List UInt8} {t : Int × Int × Int} (h : getTx r = some (t, r')) : fits t.1 ∧ fits t.2.1 ∧ fits t.2.2 := by
  rcases getTx_cases r with ⟨_, h2⟩ | ⟨a, b, c, r1, h1, h2⟩
  · rw [h2] at h; cases h
  · rw [h2] at h
    simp only [Option.some.injEq, Prod.mk.injEq] at h
    obtain ⟨rfl, _⟩ := h
    have := getNums_fits 3 h1
    exact ⟨this a (by simp), this b (by simp), this c (by simp)⟩
theorem getDt_fits {r r' : List UInt8} {t : Int × Int} (h : getDt r = some (t, r')) : fits t.1 ∧ fits t.2 := by
  rcases getDt_cases r with ⟨_, h2⟩ | ⟨a, b, r1, h1, h2⟩
  · rw [h2] at h; cases h
  · rw [h2] at h
    simp only [Option.some.injEq, Prod.mk.injEq] at h
    obtain ⟨rfl, _⟩ := h
    have := getNums_fits 2 h1
    exact ⟨this a (by simp), this b (by simp)⟩
theorem getMany_all {α : Type} {f : List UInt8 → Option (α × List UInt8)} {p : α → Prop} (hf : ∀ r x r', f r = some (x, r') → p x) : ∀ (k : Nat) {r r' : List UInt8} {l : List α}, getMany f k r = some (l, r') → ∀ x ∈ l, p x
  | 0, r, r', l, h => by
    simp only [getMany, Option.some.injEq, Prod.mk.injEq] at h
    obtain ⟨rfl, rfl⟩ := h
    simp
  | k + 1, r, r', l, h => by
    simp only [getMany] at h
    split at h
    · cases h
    · rename_i x r1 h1
      split at h
      · cases h
      · rename_i l2 r2 h2
        simp only [Option.some.injEq, Prod.mk.injEq] at h
        obtain ⟨rfl, rfl⟩ := h
        intro y hy
        rcases List.mem_cons.1 hy with rfl | hy
        · exact hf _ _ _ h1
        · exact getMany_all hf k h2 y hy
theorem getList_all {α : Type} {f : List UInt8 → Option (α × List UInt8)} {p : α → Prop} (hf : ∀ r x r', f r = some (x, r') → p x) {r r' : List UInt8} {l : List α} (h : getList f r = some (l, r')) : ∀ x ∈ l, p x := by
  unfold getList at h
  split at h
  · cases h
  · exact getMany_all hf _ h
theorem dec_good {b : List UInt8} {R : Rc} (h : dec b = some R) : R.good := by
  unfold dec at h
  split at h
  · cases h
  unfold atHead at h
  split at h
  · cases h
  rename_i l r1 h1
  have f1 := getNums_fits 6 h1
  have l1 := (getNums_len 6 h1).2
  unfold atBefore at h
  split at h
  · cases h
  unfold atAfter at h
  split at h
  · cases h
  unfold atTxns at h
  split at h
  · cases h
  rename_i p4 r4 h4
  have f4 := getList_all (p := fun t => fits t.1 ∧ fits t.2.1 ∧ fits t.2.2) (fun _ _ _ => getTx_fits) h4
  unfold atDirty at h
  split at h
  · cases h
  rename_i p5 r5 h5
  have f5 := getList_all (p := fun t => fits t.1 ∧ fits t.2) (fun _ _ _ => getDt_fits) h5
  unfold atCount at h
  split at h
  · cases h
  rename_i n r6 h6
  have f6 := getNum_len h6
  split at h
  · simp only [Option.some.injEq] at h
    subst h
    match l, l1 with
    | [a, b, c, d, e, f], _ => exact ⟨f1, f4, f5, f6.2.1, f6.2.2.1⟩
  · cases h
theorem Rc.good.wf {R : Rc} (h : R.good) : R.wf := by
  have w : ∀ {x : Int}, fits x → -9223372036854775808 ≤ x ∧ x ≤ 9223372036854775807 := fun h => ⟨by have := h.1; omega, by have := h.2; omega⟩
  refine ⟨fun x hx => w (h.head x hx), fun t ht x hx => ?_, fun t ht x hx => ?_, w h.count⟩
  · obtain ⟨a, b, c⟩ := h.txns t ht
    simp at hx
    rcases hx with rfl | rfl | rfl
    · exact w a
    · exact w b
    · exact w c
  · obtain ⟨a, b⟩ := h.dirty t ht
    simp at hx
    rcases hx with rfl | rfl
    · exact w a
    · exact w b
/-- The record that is told, or the bare one. -/
def told (bs : List UInt8) : Rc := (dec bs).getD Rc.zero
def toldN (bs : List UInt8) : Nat := match dec bs with | none => 0 | some R => R.size
theorem told_wf (bs : List UInt8) : (told bs).wf := by
  unfold told
  cases h : dec bs with
  | none => exact wf_zero
  | some R => exact (dec_good h).wf
theorem told_size (bs : List UInt8) : (told bs).size ≤ 96 + bs.length := by
  unfold told
  cases h : dec bs with
  | none => simp [Rc.zero, Rc.size]
  | some R => have := dec_le h; simp only [Option.getD_some]; omega
theorem DecEnd.uni {w w' : World} {bs : List UInt8} {e : Ending} (h : DecEnd w bs e w') : Below w.heap.size w w' ∧ ∃ vb va vt vd, e = .returned (.tuple #[.agg (recCells (told bs) vb va vt vd), .int .i64 (toldN bs), .bool (dec bs).isSome]) ∧ RecOwn w.heap.size w' (.agg (recCells (told bs) vb va vt vd)) (told bs) := by
  obtain ⟨hb, h⟩ := h
  refine ⟨hb, ?_⟩
  unfold told toldN
  cases hd : dec bs with
  | none =>
    rw [hd] at h
    exact ⟨_, _, _, _, h, RecOwn.zero _ _⟩
  | some R =>
    rw [hd] at h
    obtain ⟨V, rfl, ho⟩ := h
    have ho' := ho
    obtain ⟨vb, va, vt, vd, rfl, _⟩ := ho'
    exact ⟨vb, va, vt, vd, rfl, ho⟩
def gotU (bs : List UInt8) (vb va vt vd : Value) : Array Value :=
  #[.int .i64 (told bs).kind, .int .i64 (told bs).txn, .int .i64 (told bs).prev, .int .i64 (told bs).next, .int .i64 (told bs).page, .int .i64 (told bs).off, vb, va, vt, vd, .int .i64 (told bs).count, .int .i64 (toldN bs : Nat), .bool (dec bs).isSome]
theorem GotEnd.uni {w w' : World} {bs : List UInt8} {e : Ending} (h : GotEnd w bs e w') : Below w.heap.size w w' ∧ ∃ vb va vt vd, e = .returned (.agg (gotU bs vb va vt vd)) ∧ RecOwn w.heap.size w' (.agg (recCells (told bs) vb va vt vd)) (told bs) := by
  obtain ⟨hb, h⟩ := h
  refine ⟨hb, ?_⟩
  unfold gotU told toldN
  cases hd : dec bs with
  | none =>
    rw [hd] at h
    exact ⟨_, _, _, _, h, RecOwn.zero _ _⟩
  | some R =>
    rw [hd] at h
    obtain ⟨vb, va, vt, vd, rfl, ho⟩ := h
    exact ⟨vb, va, vt, vd, rfl, ho⟩
/-- Calls of a Go function of two arguments, or of none, that come up alone. -/
theorem step_call2_to {P : Program} {ops : Array Oper} {Q : Exit → Act → World → Prop} {md : Region.Mode} {S : World → Prop} {o : Oper} {fuel : Nat} {listed : Array Bool} {a : Act} {w : World} {R : Ending → World → Prop} (j dst f : Nat) (hj : ops[j]? = some o)
    (hr : Region.ready md ops listed = [j]) (hd : o.dst = some dst) (hw : Region.wanted o (yielded ops a.tmps) = true) (x y : Operand) (ts : Array TypeId) (hop : o.op = Op.call { callee := Callee.value (Operand.func f), args := #[x, y], argTypes := ts })
    (vx vy : Value) (hx : a.eval x = vx) (hy : a.eval y = vy) (hcf : ∀ args w, (callFunc f args).run P w = .ok (.enter f args) w) (hc : Calls P f #[vx, vy] w R)
    (hK : ∀ e w', R e w' → ∃ v, e = .returned v ∧ S w' ∧ wpAnyH P md ops Q S fuel (listed.setIfInBounds j true) (a.put (some dst) v) w') : wpAnyH P md ops Q S (fuel + 1) listed a w := by
  refine step_by j hj hr (fun K hK' => ?_)
  rw [if_pos hw]
  have hrun : (execOp a.eval o).run P w = .ok (.enter f #[vx, vy]) w := by
    have hff : a.eval (.func f) = .func (.func f) #[] #[] := rfl
    unfold execOp
    simp [hop, resolve, hff, Deferred.ofValue, invoke, hx, hy]
    exact hcf _ _
  unfold Oper.wp
  rw [hrun, Oper.upon_enter]
  refine hc.mono ?_
  intro e w' hR
  obtain ⟨v, rfl, hS, hW⟩ := hK e w' hR
  show K (a.put o.dst v) w'
  rw [hd]
  exact hK' _ _ hS hW
theorem step_call0_to {P : Program} {ops : Array Oper} {Q : Exit → Act → World → Prop} {md : Region.Mode} {S : World → Prop} {o : Oper} {fuel : Nat} {listed : Array Bool} {a : Act} {w : World} {R : Ending → World → Prop} (j dst f : Nat) (hj : ops[j]? = some o)
    (hr : Region.ready md ops listed = [j]) (hd : o.dst = some dst) (hw : Region.wanted o (yielded ops a.tmps) = true) (ts : Array TypeId) (hop : o.op = Op.call { callee := Callee.value (Operand.func f), args := #[], argTypes := ts })
    (hcf : ∀ args w, (callFunc f args).run P w = .ok (.enter f args) w) (hc : Calls P f #[] w R)
    (hK : ∀ e w', R e w' → ∃ v, e = .returned v ∧ S w' ∧ wpAnyH P md ops Q S fuel (listed.setIfInBounds j true) (a.put (some dst) v) w') : wpAnyH P md ops Q S (fuel + 1) listed a w := by
  refine step_by j hj hr (fun K hK' => ?_)
  rw [if_pos hw]
  have hrun : (execOp a.eval o).run P w = .ok (.enter f #[]) w := by
    have hff : a.eval (.func f) = .func (.func f) #[] #[] := rfl
    unfold execOp
    simp [hop, resolve, hff, Deferred.ofValue, invoke]
    exact hcf _ _
  unfold Oper.wp
  rw [hrun, Oper.upon_enter]
  refine hc.mono ?_
  intro e w' hR
  obtain ⟨v, rfl, hS, hW⟩ := hK e w' hR
  show K (a.put o.dst v) w'
  rw [hd]
  exact hK' _ _ hS hW
end Go.Proofs.Ytmfiafdhflaafaa
