/- history: how its memory stands under each kind of write. -/
import Derived.Test.YtpjppolbkdnkaaaHistP
namespace Go.Proofs.Ytpjppolbkdnkaaa
open Go.RowKit
set_option linter.unusedVariables false
set_option linter.unusedSimpArgs false

theorem nodup_mid {P M M' Q : List Nat} (h : (P ++ M ++ Q).Nodup) (hM' : M'.Nodup) (hk : ∀ k ∈ M', k ∈ M ∨ k ∉ P ++ M ++ Q) : (P ++ M' ++ Q).Nodup := by
  rw [List.nodup_append] at h ⊢
  obtain ⟨h1, h2, h3⟩ := h
  rw [List.nodup_append] at h1 ⊢
  obtain ⟨h4, h5, h6⟩ := h1
  refine ⟨⟨h4, hM', fun a ha b hb e => ?_⟩, h2, fun a ha b hb e => ?_⟩
  · subst e
    rcases hk a hb with h | h
    · exact h6 a ha a h rfl
    · exact h (by simp [ha])
  · subst e
    rcases List.mem_append.1 ha with ha | ha
    · exact h3 a (List.mem_append_left _ ha) a hb rfl
    · rcases hk a ha with h | h
      · exact h3 a (List.mem_append_right _ h) a hb rfl
      · exact h (by simp [hb])
theorem own_nodup (v : Value) : v.ownBlock.toList.Nodup := by cases v.ownBlock <;> simp
theorem ownsL_split (tv : List Value) (t : Nat) (v : Value) (h : tv[t]? = some v) (v' : Value) : ownsL tv = ownsL (tv.take t) ++ v.ownBlock.toList ++ ownsL (tv.drop (t + 1)) ∧ ownsL (tv.set t v') = ownsL (tv.take t) ++ v'.ownBlock.toList ++ ownsL (tv.drop (t + 1)) := by
  obtain ⟨hl, hv⟩ := List.getElem?_eq_some_iff.1 h
  constructor
  · conv => lhs; rw [← List.take_append_drop t tv, List.drop_eq_getElem_cons hl, hv]
    simp [ownsL]
  · rw [List.set_eq_take_append_cons_drop, if_pos hl]
    simp [ownsL]
section
variable {w0 w w' : World} {g4 g5 g6 : Nat} {v3 : Value} {tv : List Value} {S : Hs} {K : List (Nat × Obj)}
theorem HistIs.mem4 (x : HistIs w0 w g4 g5 g6 v3 tv S K) : g4 ≠ g5 ∧ g4 ≠ g6 ∧ g5 ≠ g6 ∧ (∀ k, (v3.ownBlock = some k ∨ k ∈ ownsL tv ∨ k ∈ K.map Prod.fst) → k ≠ g4 ∧ k ≠ g5 ∧ k ≠ g6) := by
  have h := x.nd
  simp only [List.nodup_cons, List.mem_cons, List.mem_append, not_or] at h
  obtain ⟨⟨a1, a2, ⟨a3, a4⟩, a5⟩, ⟨b1, ⟨b2, b3⟩, b4⟩, ⟨⟨c1, c2⟩, c3⟩, _⟩ := h
  refine ⟨a1, a2, b1, fun k hk => ?_⟩
  rcases hk with hk | hk | hk
  · refine ⟨fun e => a3 ?_, fun e => b2 ?_, fun e => c1 ?_⟩ <;> (subst e; simp [hk])
  · refine ⟨fun e => a4 ?_, fun e => b3 ?_, fun e => c2 ?_⟩ <;> (subst e; exact hk)
  · refine ⟨fun e => a5 ?_, fun e => b4 ?_, fun e => c3 ?_⟩ <;> (subst e; exact hk)
theorem intsV_set (l : List Int) (t : Nat) (v : Int) : (intsV l).toArray.setIfInBounds t (.int .i64 v) = (intsV (l.set t v)).toArray := by
  unfold intsV
  simp [List.map_set]
theorem boolsV_set (l : List Bool) (t : Nat) (v : Bool) : (boolsV l).toArray.setIfInBounds t (.bool v) = (boolsV (l.set t v)).toArray := by
  unfold boolsV
  simp [List.map_set]
theorem HistIs.setLast (x : HistIs w0 w g4 g5 g6 v3 tv S K) (t : Nat) (v : Int) : HistIs w0 (w.setCell ⟨g4, t, none⟩ (.int .i64 v)) g4 g5 g6 v3 tv { S with last := S.last.set t v } K := by
  obtain ⟨n1, n2, n3, n4⟩ := x.mem4
  have hb : ∀ k, k ≠ g4 → (w.setCell ⟨g4, t, none⟩ (.int .i64 v)).heap[k]? = w.heap[k]? := fun k hk => heap_setCell_other w _ k _ (by exact hk)
  exact { x with
    h4 := by rw [heap_setCell_same w g4 t _ 62 _ x.h4, intsV_set]
    h5 := (hb g5 (Ne.symm n1)).trans x.h5
    h6 := (hb g6 (Ne.symm n2)).trans x.h6
    n4 := by rw [List.length_set]; exact x.n4
    rows := fun q u l h1 h2 => owns_of_blockB (x.rows q u l h1 h2) (fun k hk => hb k (n4 k (.inr (.inl (ownsL_mem.2 ⟨u, List.mem_of_getElem? h1, hk⟩)))).1)
    lines := owns_of_blockB x.lines (fun k hk => hb k (n4 k (.inl hk)).1)
    keep := fun p hp => ⟨(hb p.1 (n4 p.1 (.inr (.inr (List.mem_map_of_mem hp)))).1).trans (x.keep p hp).1, (x.keep p hp).2⟩
    below := x.below.setCell (p := ⟨g4, t, none⟩) x.b4 _ }
theorem HistIs.setDone (x : HistIs w0 w g4 g5 g6 v3 tv S K) (t : Nat) (v : Bool) : HistIs w0 (w.setCell ⟨g5, t, none⟩ (.bool v)) g4 g5 g6 v3 tv { S with done := S.done.set t v } K := by
  obtain ⟨n1, n2, n3, n4⟩ := x.mem4
  have hb : ∀ k, k ≠ g5 → (w.setCell ⟨g5, t, none⟩ (.bool v)).heap[k]? = w.heap[k]? := fun k hk => heap_setCell_other w _ k _ (by exact hk)
  exact { x with
    h4 := (hb g4 n1).trans x.h4
    h5 := by rw [heap_setCell_same w g5 t _ 63 _ x.h5, boolsV_set]
    h6 := (hb g6 (Ne.symm n3)).trans x.h6
    n5 := by rw [List.length_set]; exact x.n5
    rows := fun q u l h1 h2 => owns_of_blockB (x.rows q u l h1 h2) (fun k hk => hb k (n4 k (.inr (.inl (ownsL_mem.2 ⟨u, List.mem_of_getElem? h1, hk⟩)))).2.1)
    lines := owns_of_blockB x.lines (fun k hk => hb k (n4 k (.inl hk)).2.1)
    keep := fun p hp => ⟨(hb p.1 (n4 p.1 (.inr (.inr (List.mem_map_of_mem hp)))).2.1).trans (x.keep p hp).1, (x.keep p hp).2⟩
    below := x.below.setCell (p := ⟨g5, t, none⟩) x.b5 _ }
/-- One of todo's slices is another: its row stands in 'w', whose other blocks are as 'w1' has them. -/
theorem HistIs.setTodo {w1 : World} (x : HistIs w0 w1 g4 g5 g6 v3 tv S K) (t : Nat) (v v' : Value) (l' : List Int) (hv : tv[t]? = some v) (hrow : w.ownsRow w0.heap.size 3 1 v' l'.length (intCells l')) (hO : Off v.ownBlock.toList w1 w) (hfr : ∀ k, v'.ownBlock = some k → v.ownBlock = some k ∨ w1.heap.size ≤ k) :
    HistIs w0 (w.setCell ⟨g6, t, none⟩ v') g4 g5 g6 v3 (tv.set t v') { S with todo := S.todo.set t l' } K := by
  obtain ⟨n1, n2, n3, n4⟩ := x.mem4
  have hvm : ∀ k, v.ownBlock = some k → k ∈ ownsL tv := fun k hk => ownsL_mem.2 ⟨v, List.mem_of_getElem? hv, hk⟩
  have hnd := x.nd
  obtain ⟨e1, e2⟩ := ownsL_split tv t v hv v'
  have hoth : ∀ k, k < w1.heap.size → v.ownBlock ≠ some k → k ≠ g6 → (w.setCell ⟨g6, t, none⟩ v').heap[k]? = w1.heap[k]? := fun k hk hn h6 => (heap_setCell_other w _ k _ (by exact h6)).trans (hO.block k hk (by simpa using hn))
  have hlt := x.lt
  have hin : ∀ k, k ∈ hblocks g4 g5 g6 v3 tv K → k < w1.heap.size := hlt
  -- blocks of others are not v's
  have hap : ∀ k, v.ownBlock = some k → k ∉ g4 :: g5 :: g6 :: (v3.ownBlock.toList ++ ownsL (tv.take t)) ∧ k ∉ ownsL (tv.drop (t + 1)) ++ K.map Prod.fst := fun k hk => by
    have h : ((g4 :: g5 :: g6 :: (v3.ownBlock.toList ++ ownsL (tv.take t))) ++ v.ownBlock.toList ++ (ownsL (tv.drop (t + 1)) ++ K.map Prod.fst)).Nodup := by
      have := hnd
      rw [e1] at this
      simpa [List.append_assoc] using this
    rw [List.nodup_append, List.nodup_append] at h
    obtain ⟨⟨_, _, h1⟩, _, h2⟩ := h
    exact ⟨fun hm => h1 k hm k (by simp [hk]) rfl, fun hm => h2 k (List.mem_append_right _ (by simp [hk])) k hm rfl⟩
  have hne : ∀ k, k ∈ g4 :: g5 :: g6 :: (v3.ownBlock.toList ++ ownsL (tv.take t)) ∨ k ∈ ownsL (tv.drop (t + 1)) ++ K.map Prod.fst → v.ownBlock ≠ some k := fun k hk e => by
    rcases hk with hk | hk
    · exact (hap k e).1 hk
    · exact (hap k e).2 hk
  have hkm : ∀ p ∈ K, v.ownBlock ≠ some p.1 := fun p hp => hne p.1 (.inr (List.mem_append_right _ (List.mem_map_of_mem hp)))
  have hlm : ∀ k, v3.ownBlock = some k → v.ownBlock ≠ some k := fun k hk => hne k (.inl (by simp [hk]))
  have hKlt : ∀ p ∈ K, p.1 < w1.heap.size := fun p hp => hlt p.1 (by
    have := List.mem_map_of_mem (f := Prod.fst) hp
    simp only [hblocks, List.mem_cons, List.mem_append]
    exact .inr (.inr (.inr (.inr this))))
  refine { h4 := (hoth g4 (hlt g4 (by simp [hblocks])) (hne g4 (.inl (by simp))) n2).trans x.h4, h5 := (hoth g5 (hlt g5 (by simp [hblocks])) (hne g5 (.inl (by simp))) n3).trans x.h5, h6 := ?_, n4 := x.n4, n5 := x.n5, n6 := by rw [List.length_set]; exact x.n6, nt := by show (S.todo.set t l').length = 5; rw [List.length_set]; exact x.nt, rows := ?_, lines := ?_, keep := ?_, below := ?_, b4 := x.b4, b5 := x.b5, b6 := x.b6, nd := ?_ }
  · have h6' : w.heap[g6]? = some (.cells tv.toArray 64 (0, 0)) := (hO.block g6 (hlt g6 (by simp [hblocks])) (by simpa using hne g6 (.inl (by simp)))).trans x.h6
    rw [heap_setCell_same w g6 t _ 64 _ h6']
    simp
  · intro q u l h1 h2
    by_cases e : q = t
    · subst e
      have hq : q < tv.length := (List.getElem?_eq_some_iff.1 hv).1
      have hq2 : q < S.todo.length := by rw [x.nt, ← x.n6]; exact hq
      rw [List.getElem?_set_self hq] at h1
      cases h1
      have h2 : (S.todo.set q l')[q]? = some l := h2
      rw [List.getElem?_set_self hq2] at h2
      cases h2
      refine owns_of_blockB hrow (fun k hk => heap_setCell_other w _ k _ ?_)
      show k ≠ g6
      rcases hfr k hk with h | h
      · exact (n4 k (.inr (.inl (hvm k h)))).2.2
      · intro e; subst e; have := hlt k (by simp [hblocks]); omega
    · rw [List.getElem?_set_ne (Ne.symm e)] at h1
      have h2 : (S.todo.set t l')[q]? = some l := h2
      rw [List.getElem?_set_ne (Ne.symm e)] at h2
      have hr := x.rows q u l h1 h2
      refine owns_of_blockB hr (fun k hk => hoth k (hr.lt k hk).2 ?_ (n4 k (.inr (.inl (ownsL_mem.2 ⟨u, List.mem_of_getElem? h1, hk⟩)))).2.2)
      refine hne k ?_
      by_cases hqt : q < t
      · refine .inl ?_
        have : k ∈ ownsL (tv.take t) := ownsL_mem.2 ⟨u, List.mem_of_getElem? (i := q) (by rw [List.getElem?_take_of_lt hqt]; exact h1), hk⟩
        simp [this]
      · refine .inr (List.mem_append_left _ (ownsL_mem.2 ⟨u, List.mem_of_getElem? (i := q - (t + 1)) (by rw [List.getElem?_drop, show t + 1 + (q - (t + 1)) = q by omega]; exact h1), hk⟩))
  · exact owns_of_blockB x.lines (fun k hk => hoth k (x.lines.lt k hk).2 (hlm k hk) (n4 k (.inl hk)).2.2)
  · intro p hp
    exact ⟨(hoth p.1 (hKlt p hp) (hkm p hp) (n4 p.1 (.inr (.inr (List.mem_map_of_mem hp)))).2.2).trans (x.keep p hp).1, (x.keep p hp).2⟩
  · have hO2 : Below w0.heap.size w0 w := x.below.trans (hO.below x.below.size (fun k hk => by
      have hk : v.ownBlock = some k := by simpa using hk
      obtain ⟨l, hl⟩ : ∃ l, S.todo[t]? = some l := ⟨_, List.getElem?_eq_getElem (by rw [x.nt, ← x.n6]; exact (List.getElem?_eq_some_iff.1 hv).1)⟩
      exact ((x.rows t v l hv hl).lt k hk).1))
    exact hO2.setCell (p := ⟨g6, t, none⟩) x.b6 _
  · have h : ((g4 :: g5 :: g6 :: (v3.ownBlock.toList ++ ownsL (tv.take t))) ++ v.ownBlock.toList ++ (ownsL (tv.drop (t + 1)) ++ K.map Prod.fst)).Nodup := by
      have := hnd
      rw [e1] at this
      simpa [List.append_assoc] using this
    have := nodup_mid h (own_nodup v') (fun k hk => by
      have hk : v'.ownBlock = some k := by simpa using hk
      rcases hfr k hk with h | h
      · exact .inl (by simp [h])
      · refine .inr (fun hm => ?_)
        have : k ∈ hblocks g4 g5 g6 v3 tv K := by
          unfold hblocks
          rw [e1]
          simpa [List.append_assoc] using hm
        have := hlt k this
        omega)
    rw [e2]
    simpa [List.append_assoc] using this
/-- One more line. -/
theorem HistIs.addLine (x : HistIs w0 w g4 g5 g6 v3 tv S K) (r : Ln) {v4 : Value} {w1 w4 : World} (hw1 : Off [] w w1) (r1 : w4.ownsRow 0 34 12 v4 (S.L.length + 1) (lnRow S.L ++ lnCells r)) (r2 : w1.grownBy w4 v3.ownBlock)
    (r3 : ∀ k, v4.ownBlock = some k → v3.ownBlock = some k ∨ w1.heap.size ≤ k) : HistIs w0 w4 g4 g5 g6 v4 tv { S with L := S.L ++ [r] } K := by
  have hsz := hw1.size
  have h0 := x.below.size
  have hlt := x.lt
  have hnd := x.nd
  have h : ([g4, g5, g6] ++ v3.ownBlock.toList ++ (ownsL tv ++ K.map Prod.fst)).Nodup := by simpa [List.append_assoc] using hnd
  have hap : ∀ k, k ∈ [g4, g5, g6] ∨ k ∈ ownsL tv ++ K.map Prod.fst → v3.ownBlock ≠ some k := fun k hk e => by
    have h' := h
    rw [List.nodup_append, List.nodup_append] at h'
    obtain ⟨⟨_, _, h1⟩, _, h2⟩ := h'
    rcases hk with hk | hk
    · exact h1 k hk k (by simp [e]) rfl
    · exact h2 k (List.mem_append_right _ (by simp [e])) k hk rfl
  have hb : ∀ k, k < w.heap.size → (k ∈ [g4, g5, g6] ∨ k ∈ ownsL tv ++ K.map Prod.fst) → w4.heap[k]? = w.heap[k]? := fun k hk hm => (r2.block k (by omega) (fun e => hap k hm e.symm)).trans (hw1.block k hk (by simp))
  have e1 : (S.L ++ [r]).length = S.L.length + 1 := by simp
  have e2 : lnRow (S.L ++ [r]) = lnRow S.L ++ lnCells r := by simp [lnRow]
  refine { x with h4 := (hb g4 (hlt g4 (by simp [hblocks])) (.inl (by simp))).trans x.h4, h5 := (hb g5 (hlt g5 (by simp [hblocks])) (.inl (by simp))).trans x.h5, h6 := (hb g6 (hlt g6 (by simp [hblocks])) (.inl (by simp))).trans x.h6, rows := ?_, lines := ?_, keep := ?_, below := ?_, nd := ?_ }
  · intro q u l h1 h2
    have hr := x.rows q u l h1 h2
    exact owns_of_blockB hr (fun k hk => hb k (hr.lt k hk).2 (.inr (List.mem_append_left _ (ownsL_mem.2 ⟨u, List.mem_of_getElem? h1, hk⟩))))
  · show w4.ownsRow w0.heap.size 34 12 v4 (S.L ++ [r]).length (lnRow (S.L ++ [r]))
    rw [e1, e2]
    refine owns_base r1 (fun k hk => ?_)
    rcases r3 k hk with h | h
    · exact (x.lines.lt k h).1
    · omega
  · intro p hp
    have hm := List.mem_map_of_mem (f := Prod.fst) hp
    exact ⟨(hb p.1 (Array.getElem?_eq_some_iff.1 (x.keep p hp).1).1 (.inr (List.mem_append_right _ hm))).trans (x.keep p hp).1, (x.keep p hp).2⟩
  · exact x.below.trans ((((Off.refl v3.ownBlock.toList w).trans hw1 (by simp)).grown r2 (fun k hk => .inl (by simp [hk]))).below h0 (fun k hk => (x.lines.lt k (by simpa using hk)).1))
  · have := nodup_mid h (own_nodup v4) (fun k hk => by
      have hk : v4.ownBlock = some k := by simpa using hk
      rcases r3 k hk with h | h
      · exact .inl (by simp [h])
      · refine .inr (fun hm => ?_)
        have : k ∈ hblocks g4 g5 g6 v3 tv K := by
          unfold hblocks
          simpa [List.append_assoc] using hm
        have := hlt k this
        omega)
    simpa [List.append_assoc] using this
/-- A new block is kept. -/
theorem HistIs.addKeep (x : HistIs w0 w g4 g5 g6 v3 tv S K) (hb : Below w.heap.size w w') (g : Nat) (o : Obj) (hg : w.heap.size ≤ g) (ho : w'.heap[g]? = some o) : HistIs w0 w' g4 g5 g6 v3 tv S ((g, o) :: K) := by
  have h0 := x.below.size
  have hlt := x.lt
  refine { x.stayD hb with keep := ?_, nd := ?_ }
  · intro p hp
    rcases List.mem_cons.1 hp with rfl | h
    · exact ⟨ho, by simp only; omega⟩
    · exact (x.stayD hb).keep p h
  · have h : ((g4 :: g5 :: g6 :: (v3.ownBlock.toList ++ ownsL tv)) ++ [] ++ K.map Prod.fst).Nodup := by simpa [List.append_assoc] using x.nd
    have := nodup_mid (M' := [g]) h (by simp) (fun k hk => by
      simp only [List.mem_singleton] at hk
      subst hk
      refine .inr (fun hm => ?_)
      have : k ∈ hblocks g4 g5 g6 v3 tv K := by
        unfold hblocks
        simpa [List.append_assoc] using hm
      have := hlt k this
      omega)
    simpa [List.append_assoc] using this
theorem HistIs.swapK {p q : Nat × Obj} (x : HistIs w0 w g4 g5 g6 v3 tv S (p :: q :: K)) : HistIs w0 w g4 g5 g6 v3 tv S (q :: p :: K) where
  h4 := x.h4
  h5 := x.h5
  h6 := x.h6
  n4 := x.n4
  n5 := x.n5
  n6 := x.n6
  nt := x.nt
  rows := x.rows
  lines := x.lines
  keep := fun r hr => x.keep r (by
    rcases List.mem_cons.1 hr with h | hr
    · subst h; simp
    · rcases List.mem_cons.1 hr with h | hr
      · subst h; simp
      · simp [hr])
  below := x.below
  b4 := x.b4
  b5 := x.b5
  b6 := x.b6
  nd := by
    refine (List.Perm.nodup_iff ?_).1 x.nd
    refine List.Perm.cons _ (List.Perm.cons _ (List.Perm.cons _ (List.Perm.append_left _ ?_)))
    exact List.Perm.swap _ _ _
/-- A write to a block that is none of its. -/
theorem HistIs.setOther (x : HistIs w0 w g4 g5 g6 v3 tv S K) (g k : Nat) (v : Value) (hg : g ∉ hblocks g4 g5 g6 v3 tv K) (hb : w0.heap.size ≤ g) : HistIs w0 (w.setCell ⟨g, k, none⟩ v) g4 g5 g6 v3 tv S K :=
  x.stay (fun q hq => heap_setCell_other w _ q _ (fun e => hg (by have e : q = g := e; rw [← e]; exact hq))) (x.below.setCell (p := ⟨g, k, none⟩) hb _)
/-- The record of an update is filled, and its bytes are made. -/
theorem HistIs.updBox (x : HistIs w0 w g4 g5 g6 v3 tv S K) (gr : Nat) (hg : gr ∉ hblocks g4 g5 g6 v3 tv K) (hb : w0.heap.size ≤ gr) (r : Ln) (hbox : w.heap[gr]? = some (.cells (recCells r).toArray 32 (0, 0))) (pg of : Int) (s6 s7 : Sv) (c1 c2 : Array Value) {W : World}
    (hW : (((((((w.setCell ⟨gr, 0, none⟩ (.int .i64 2)).setCell ⟨gr, 4, none⟩ (.int .i64 pg)).setCell ⟨gr, 5, none⟩ (.int .i64 of)).setCell ⟨gr, 6, none⟩ (.slice s6.a s6.n s6.c)).setCell ⟨gr, 7, none⟩ (.slice s7.a s7.n s7.c)).alloc (.cells c1 5)).alloc (.cells c2 5)).drew = W) :
    HistIs w0 W g4 g5 g6 v3 tv S ((w.heap.size, .cells c1 5 (0, 0)) :: (w.heap.size + 1, .cells c2 5 (0, 0)) :: K) ∧ W.heap[gr]? = some (.cells (recCells { r with kind := 2, page := pg, off := of, sb := s6, sa := s7 }).toArray 32 (0, 0)) ∧ W.heap.size = w.heap.size + 2 := by
  have y5 := ((((x.setOther gr 0 (.int .i64 2) hg hb).setOther gr 4 (.int .i64 pg) hg hb).setOther gr 5 (.int .i64 of) hg hb).setOther gr 6 (.slice s6.a s6.n s6.c) hg hb).setOther gr 7 (.slice s7.a s7.n s7.c) hg hb
  have b1 := heap_setCell_same w gr 0 _ 32 (.int .i64 2) hbox
  have b2 := heap_setCell_same _ gr 4 _ 32 (.int .i64 pg) b1
  have b3 := heap_setCell_same _ gr 5 _ 32 (.int .i64 of) b2
  have b4 := heap_setCell_same _ gr 6 _ 32 (.slice s6.a s6.n s6.c) b3
  have b5 := heap_setCell_same _ gr 7 _ 32 (.slice s7.a s7.n s7.c) b4
  have hsz : (((((w.setCell ⟨gr, 0, none⟩ (.int .i64 2)).setCell ⟨gr, 4, none⟩ (.int .i64 pg)).setCell ⟨gr, 5, none⟩ (.int .i64 of)).setCell ⟨gr, 6, none⟩ (.slice s6.a s6.n s6.c)).setCell ⟨gr, 7, none⟩ (.slice s7.a s7.n s7.c)).heap.size = w.heap.size := by simp [World.setCell]
  generalize (((((w.setCell ⟨gr, 0, none⟩ (.int .i64 2)).setCell ⟨gr, 4, none⟩ (.int .i64 pg)).setCell ⟨gr, 5, none⟩ (.int .i64 of)).setCell ⟨gr, 6, none⟩ (.slice s6.a s6.n s6.c)).setCell ⟨gr, 7, none⟩ (.slice s7.a s7.n s7.c)) = Y at y5 b5 hsz hW
  have hgl : gr < Y.heap.size := (Array.getElem?_eq_some_iff.1 b5).1
  have hB1 : Below Y.heap.size Y (Y.alloc (.cells c1 5)) := (Below.refl _ _).alloc (Nat.le_refl _) _
  have z1 := y5.addKeep hB1 Y.heap.size (.cells c1 5) (Nat.le_refl _) (heap_alloc_new Y _)
  have hB2 : Below (Y.alloc (.cells c1 5)).heap.size (Y.alloc (.cells c1 5)) ((Y.alloc (.cells c1 5)).alloc (.cells c2 5)).drew := ((Below.refl _ _).alloc (Nat.le_refl _) _).trans (below_drewN _ _ 1)
  have z2 := z1.addKeep hB2 (Y.alloc (.cells c1 5)).heap.size (.cells c2 5) (Nat.le_refl _) (heap_alloc_new (Y.alloc (.cells c1 5)) _)
  rw [hW] at z2
  rw [World.size_alloc] at z2
  rw [hsz] at z2
  refine ⟨z2.swapK, ?_, ?_⟩
  · rw [← hW]
    refine ((hB2.block gr (by rw [World.size_alloc]; omega)).trans (hB1.block gr hgl)).trans (b5.trans ?_)
    rfl
  · rw [← hW]
    show ((Y.alloc (.cells c1 5)).alloc (.cells c2 5)).heap.size = _
    rw [World.size_alloc, World.size_alloc, hsz]
end
def Hs.init : Hs := ⟨[], [0, 0, 0, 0, 0], [false, false, false, false, false], [[], [], [], [], []]⟩
/-- The LSN of the next record. -/
def Hs.lsn (S : Hs) : Int := 10 * ((S.L.length : Int) + 1)
def Hs.lastAt (S : Hs) (t : Nat) : Int := S.last.getD t 0
def Hs.doneAt (S : Hs) (t : Nat) : Bool := S.done.getD t false
def Hs.todoAt (S : Hs) (t : Nat) : List Int := S.todo.getD t []
/-- A record goes to the end of the log. -/
def Hs.put (S : Hs) (t : Nat) (r : Ln) : Hs := { S with L := S.L ++ [r], last := S.last.set t r.lsn }
def Hs.rec0 (S : Hs) (t : Nat) : Ln := { Ln.zero with lsn := S.lsn, txn := t, prev := S.lastAt t }
def byteOf (n : Nat) : Value := .int .u8 (n : Int)
def oneSv (g : Nat) : Sv := ⟨some ⟨g, 0, none⟩, 1, 1⟩
def HStep (i : Nat) (x : St) (S : Hs) (K : List (Nat × Obj)) (S' : Hs) (K' : List (Nat × Obj)) : Prop :=
  ∀ P : Hs → List (Nat × Obj) → Prop,
    (∀ (h : S.doneAt (tOf x) = true), P S K) →
    (∀ (h : S.doneAt (tOf x) = false) (hl : S.lastAt (tOf x) = 0), P (S.put (tOf x) { S.rec0 (tOf x) with kind := 1 }) K) →
    (∀ (h : S.doneAt (tOf x) = false) (hl : S.lastAt (tOf x) ≠ 0) (hk : x.kind = 2), P ({ S with done := S.done.set (tOf x) true }.put (tOf x) { S.rec0 (tOf x) with kind := 4 }) K) →
    (∀ (h : S.doneAt (tOf x) = false) (hl : S.lastAt (tOf x) ≠ 0) (hk : x.kind = 3) (l : List Int) (k : Nat) (u : Ln) (ht : S.todoAt (tOf x) = l ++ [(k : Int)]) (hu : S.L[k]? = some u), P ({ S with todo := S.todo.set (tOf x) l }.put (tOf x) { S.rec0 (tOf x) with kind := 3, page := u.page, off := u.off, sa := u.sb, next := u.prev }) K) →
    (∀ (h : S.doneAt (tOf x) = false) (hl : S.lastAt (tOf x) ≠ 0) (hk : x.kind ≠ 2) (hk3 : ¬ (x.kind = 3 ∧ S.todoAt (tOf x) ≠ [])) (g1 g2 : Nat), P ({ S with todo := S.todo.set (tOf x) (S.todoAt (tOf x) ++ [(S.L.length : Int)]) }.put (tOf x) { S.rec0 (tOf x) with kind := 2, page := bits .and .i64 x.page 3, off := bits .and .i64 x.off 7, sb := oneSv g1, sa := oneSv g2 }) ((g1, .cells #[byteOf i] 5 (0, 0)) :: (g2, .cells #[byteOf (i + 1)] 5 (0, 0)) :: K)) →
    P S' K'
theorem HStep.skip {i : Nat} {x : St} {S : Hs} {K : List (Nat × Obj)} (h : S.doneAt (tOf x) = true) : HStep i x S K S K := fun P hP1 hP2 hP3 hP4 hP5 => hP1 h
theorem HStep.begin {i : Nat} {x : St} {S : Hs} {K : List (Nat × Obj)} (h : S.doneAt (tOf x) = false) (hl : S.lastAt (tOf x) = 0) : HStep i x S K (S.put (tOf x) { S.rec0 (tOf x) with kind := 1 }) K := fun P hP1 hP2 hP3 hP4 hP5 => hP2 h hl
theorem HStep.commit {i : Nat} {x : St} {S : Hs} {K : List (Nat × Obj)} (h : S.doneAt (tOf x) = false) (hl : S.lastAt (tOf x) ≠ 0) (hk : x.kind = 2) : HStep i x S K ({ S with done := S.done.set (tOf x) true }.put (tOf x) { S.rec0 (tOf x) with kind := 4 }) K := fun P hP1 hP2 hP3 hP4 hP5 => hP3 h hl hk
theorem HStep.undo {i : Nat} {x : St} {S : Hs} {K : List (Nat × Obj)} (h : S.doneAt (tOf x) = false) (hl : S.lastAt (tOf x) ≠ 0) (hk : x.kind = 3) (l : List Int) (k : Nat) (u : Ln) (ht : S.todoAt (tOf x) = l ++ [(k : Int)]) (hu : S.L[k]? = some u) : HStep i x S K ({ S with todo := S.todo.set (tOf x) l }.put (tOf x) { S.rec0 (tOf x) with kind := 3, page := u.page, off := u.off, sa := u.sb, next := u.prev }) K := fun P hP1 hP2 hP3 hP4 hP5 => hP4 h hl hk l k u ht hu
theorem HStep.update {i : Nat} {x : St} {S : Hs} {K : List (Nat × Obj)} (h : S.doneAt (tOf x) = false) (hl : S.lastAt (tOf x) ≠ 0) (hk : x.kind ≠ 2) (hk3 : ¬ (x.kind = 3 ∧ S.todoAt (tOf x) ≠ [])) (g1 g2 : Nat) : HStep i x S K ({ S with todo := S.todo.set (tOf x) (S.todoAt (tOf x) ++ [(S.L.length : Int)]) }.put (tOf x) { S.rec0 (tOf x) with kind := 2, page := bits .and .i64 x.page 3, off := bits .and .i64 x.off 7, sb := oneSv g1, sa := oneSv g2 }) ((g1, .cells #[byteOf i] 5 (0, 0)) :: (g2, .cells #[byteOf (i + 1)] 5 (0, 0)) :: K) := fun P hP1 hP2 hP3 hP4 hP5 => hP5 h hl hk hk3 g1 g2
theorem HStep.ind {i : Nat} {x : St} {S : Hs} {K : List (Nat × Obj)} {motive : (S' : Hs) → (K' : List (Nat × Obj)) → HStep i x S K S' K' → Prop}
    (skip : ∀ (h : S.doneAt (tOf x) = true), motive S K (.skip h))
    (begin : ∀ (h : S.doneAt (tOf x) = false) (hl : S.lastAt (tOf x) = 0), motive (S.put (tOf x) { S.rec0 (tOf x) with kind := 1 }) K (.begin h hl))
    (commit : ∀ (h : S.doneAt (tOf x) = false) (hl : S.lastAt (tOf x) ≠ 0) (hk : x.kind = 2), motive ({ S with done := S.done.set (tOf x) true }.put (tOf x) { S.rec0 (tOf x) with kind := 4 }) K (.commit h hl hk))
    (undo : ∀ (h : S.doneAt (tOf x) = false) (hl : S.lastAt (tOf x) ≠ 0) (hk : x.kind = 3) (l : List Int) (k : Nat) (u : Ln) (ht : S.todoAt (tOf x) = l ++ [(k : Int)]) (hu : S.L[k]? = some u), motive ({ S with todo := S.todo.set (tOf x) l }.put (tOf x) { S.rec0 (tOf x) with kind := 3, page := u.page, off := u.off, sa := u.sb, next := u.prev }) K (.undo h hl hk l k u ht hu))
    (update : ∀ (h : S.doneAt (tOf x) = false) (hl : S.lastAt (tOf x) ≠ 0) (hk : x.kind ≠ 2) (hk3 : ¬ (x.kind = 3 ∧ S.todoAt (tOf x) ≠ [])) (g1 g2 : Nat), motive ({ S with todo := S.todo.set (tOf x) (S.todoAt (tOf x) ++ [(S.L.length : Int)]) }.put (tOf x) { S.rec0 (tOf x) with kind := 2, page := bits .and .i64 x.page 3, off := bits .and .i64 x.off 7, sb := oneSv g1, sa := oneSv g2 }) ((g1, .cells #[byteOf i] 5 (0, 0)) :: (g2, .cells #[byteOf (i + 1)] 5 (0, 0)) :: K) (.update h hl hk hk3 g1 g2))
    {S' : Hs} {K' : List (Nat × Obj)} (h : HStep i x S K S' K') : motive S' K' h := by
  obtain ⟨_, hm⟩ := h (fun S' K' => ∃ c : HStep i x S K S' K', motive S' K' c)
    (fun h => ⟨.skip h, skip h⟩)
    (fun h hl => ⟨.begin h hl, begin h hl⟩)
    (fun h hl hk => ⟨.commit h hl hk, commit h hl hk⟩)
    (fun h hl hk l k u ht hu => ⟨.undo h hl hk l k u ht hu, undo h hl hk l k u ht hu⟩)
    (fun h hl hk hk3 g1 g2 => ⟨.update h hl hk hk3 g1 g2, update h hl hk hk3 g1 g2⟩)
  exact hm
def HRun (X : List St) (n : Nat) (S : Hs) (K : List (Nat × Obj)) : Prop :=
  ∀ P : Nat → Hs → List (Nat × Obj) → Prop,
    (P 0 Hs.init ([])) →
    (∀ (i : Nat) (x : St) (S : Hs) (K : List (Nat × Obj)) (S' : Hs) (K' : List (Nat × Obj)) (h : P i S K) (hx : X[i]? = some x) (hs : HStep i x S K S' K'), P (i + 1) S' K') →
    P n S K
theorem HRun.nil {X : List St}  : HRun X 0 Hs.init ([]) := fun P hP1 hP2 => hP1 
theorem HRun.step {X : List St} (i : Nat) (x : St) (S : Hs) (K : List (Nat × Obj)) (S' : Hs) (K' : List (Nat × Obj)) (h : HRun X i S K) (hx : X[i]? = some x) (hs : HStep i x S K S' K') : HRun X (i + 1) S' K' := fun P hP1 hP2 => hP2 i x S K S' K' (h P hP1 hP2) hx hs
theorem HRun.ind {X : List St} {motive : (n : Nat) → (S : Hs) → (K : List (Nat × Obj)) → HRun X n S K → Prop}
    (nil : motive 0 Hs.init ([]) (.nil))
    (step : ∀ (i : Nat) (x : St) (S : Hs) (K : List (Nat × Obj)) (S' : Hs) (K' : List (Nat × Obj)) (h : HRun X i S K) (hx : X[i]? = some x) (hs : HStep i x S K S' K') (ih : motive i S K h), motive (i + 1) S' K' (.step i x S K S' K' h hx hs))
    {n : Nat} {S : Hs} {K : List (Nat × Obj)} (h : HRun X n S K) : motive n S K h := by
  obtain ⟨_, hm⟩ := h (fun n S K => ∃ c : HRun X n S K, motive n S K c)
    ⟨.nil, nil⟩
    (fun i x S K S' K' ⟨h, mh⟩ hx hs => ⟨.step i x S K S' K' h hx hs, step i x S K S' K' h hx hs mh⟩)
  exact hm
/-- What may be undone lies in the log, and is an update. -/
structure HOk (S : Hs) : Prop where
  todo : ∀ (t : Nat) (l : List Int) (k : Int), S.todo[t]? = some l → k ∈ l → ∃ (q : Nat) (u : Ln), k = (q : Int) ∧ S.L[q]? = some u ∧ u.kind = 2
  n4 : S.last.length = 5
  n5 : S.done.length = 5
  nt : S.todo.length = 5
theorem HOk.init : HOk Hs.init where
  todo := fun t l k h hk => by
    have : l = [] := by
      match t, h with
      | 0, h => simpa [Hs.init] using h.symm
      | 1, h => simpa [Hs.init] using h.symm
      | 2, h => simpa [Hs.init] using h.symm
      | 3, h => simpa [Hs.init] using h.symm
      | 4, h => simpa [Hs.init] using h.symm
      | t + 5, h => simp [Hs.init] at h
    rw [this] at hk; cases hk
  n4 := rfl
  n5 := rfl
  nt := rfl
theorem HOk.step {i : Nat} {x : St} {S S' : Hs} {K K' : List (Nat × Obj)} (h : HOk S) (hs : HStep i x S K S' K') : HOk S' := by
  have ht := tOf_le x
  have ht5 : tOf x < S.todo.length := by rw [h.nt]; omega
  have grow : ∀ (r : Ln) (q : Nat) (u : Ln), S.L[q]? = some u → (S.L ++ [r])[q]? = some u := fun r q u hu => by
    rw [List.getElem?_append_left (List.getElem?_eq_some_iff.1 hu).1]; exact hu
  have hat : S.todo[tOf x]? = some (S.todoAt (tOf x)) := by
    unfold Hs.todoAt
    rw [List.getD_eq_getElem?_getD, List.getElem?_eq_getElem ht5]
    rfl
  cases hs using HStep.ind with
  | skip => exact h
  | begin _ _ =>
    refine ⟨fun t l k h1 h2 => ?_, by simp [Hs.put, h.n4], h.n5, h.nt⟩
    obtain ⟨q, u, e1, e2, e3⟩ := h.todo t l k h1 h2
    exact ⟨q, u, e1, grow _ q u e2, e3⟩
  | commit _ _ _ =>
    refine ⟨fun t l k h1 h2 => ?_, by simp [Hs.put, h.n4], by simp [Hs.put, h.n5], h.nt⟩
    obtain ⟨q, u, e1, e2, e3⟩ := h.todo t l k h1 h2
    exact ⟨q, u, e1, grow _ q u e2, e3⟩
  | undo _ _ _ l k u e hu =>
    refine ⟨fun t l' k' h1 h2 => ?_, by simp [Hs.put, h.n4], h.n5, by simp [Hs.put, h.nt]⟩
    have h1 : (S.todo.set (tOf x) l)[t]? = some l' := h1
    by_cases et : t = tOf x
    · subst et
      rw [List.getElem?_set_self ht5] at h1
      cases h1
      obtain ⟨q, u', e1, e2, e3⟩ := h.todo (tOf x) _ k' hat (by rw [e]; exact List.mem_append_left _ h2)
      exact ⟨q, u', e1, grow _ q u' e2, e3⟩
    · rw [List.getElem?_set_ne (Ne.symm et)] at h1
      obtain ⟨q, u', e1, e2, e3⟩ := h.todo t l' k' h1 h2
      exact ⟨q, u', e1, grow _ q u' e2, e3⟩
  | update _ _ _ _ g1 g2 =>
    refine ⟨fun t l' k' h1 h2 => ?_, by simp [Hs.put, h.n4], h.n5, by simp [Hs.put, h.nt]⟩
    have h1 : (S.todo.set (tOf x) (S.todoAt (tOf x) ++ [(S.L.length : Int)]))[t]? = some l' := h1
    by_cases et : t = tOf x
    · subst et
      rw [List.getElem?_set_self ht5] at h1
      cases h1
      rcases List.mem_append.1 h2 with h2 | h2
      · obtain ⟨q, u', e1, e2, e3⟩ := h.todo (tOf x) _ k' hat h2
        exact ⟨q, u', e1, grow _ q u' e2, e3⟩
      · simp at h2
        refine ⟨S.L.length, _, h2, List.getElem?_concat_length, rfl⟩
    · rw [List.getElem?_set_ne (Ne.symm et)] at h1
      obtain ⟨q, u', e1, e2, e3⟩ := h.todo t l' k' h1 h2
      exact ⟨q, u', e1, grow _ q u' e2, e3⟩
theorem HRun.ok {X : List St} {i : Nat} {S : Hs} {K : List (Nat × Obj)} (h : HRun X i S K) : HOk S ∧ S.L.length ≤ i := by
  induction h using HRun.ind with
  | nil => exact ⟨HOk.init, Nat.le_refl _⟩
  | step i x S K S' K' h hx hs ih =>
    refine ⟨ih.1.step hs, ?_⟩
    have h2 := ih.2
    cases hs using HStep.ind with
    | skip => omega
    | begin => simp [Hs.put]; omega
    | commit => simp [Hs.put]; omega
    | undo => simp [Hs.put]; omega
    | update => simp [Hs.put]; omega
theorem HRun.todo_len {X : List St} {i : Nat} {S : Hs} {K : List (Nat × Obj)} (h : HRun X i S K) : ∀ (t : Nat) (l : List Int), S.todo[t]? = some l → l.length ≤ i := by
  induction h using HRun.ind with
  | nil =>
    intro t l hl
    have : l = [] := by
      match t, hl with
      | 0, h => simpa [Hs.init] using h.symm
      | 1, h => simpa [Hs.init] using h.symm
      | 2, h => simpa [Hs.init] using h.symm
      | 3, h => simpa [Hs.init] using h.symm
      | 4, h => simpa [Hs.init] using h.symm
      | t + 5, h => simp [Hs.init] at h
    rw [this]; simp
  | step i x S K S' K' h hx hs ih =>
    intro t l hl
    have ht5 : tOf x < S.todo.length := by rw [h.ok.1.nt]; have := tOf_le x; omega
    have hat : S.todo[tOf x]? = some (S.todoAt (tOf x)) := by
      unfold Hs.todoAt
      rw [List.getD_eq_getElem?_getD, List.getElem?_eq_getElem ht5]
      rfl
    have hd := ih _ _ hat
    cases hs using HStep.ind with
    | skip => have := ih t l hl; omega
    | begin => have := ih t l hl; omega
    | commit => have := ih t l hl; omega
    | undo _ _ _ l' k u e hu =>
      have hl : (S.todo.set (tOf x) l')[t]? = some l := hl
      by_cases et : t = tOf x
      · subst et
        rw [List.getElem?_set_self ht5] at hl
        cases hl
        rw [e, List.length_append] at hd
        omega
      · rw [List.getElem?_set_ne (Ne.symm et)] at hl
        have := ih t l hl; omega
    | update _ _ _ _ g1 g2 =>
      have hl : (S.todo.set (tOf x) (S.todoAt (tOf x) ++ [(S.L.length : Int)]))[t]? = some l := hl
      by_cases et : t = tOf x
      · subst et
        rw [List.getElem?_set_self ht5] at hl
        cases hl
        rw [List.length_append]
        simp
        omega
      · rw [List.getElem?_set_ne (Ne.symm et)] at hl
        have := ih t l hl; omega
end Go.Proofs.Ytpjppolbkdnkaaa
