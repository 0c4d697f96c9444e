/- compensate: what a record means to one who goes back. -/
import Derived.Test.YtpjppolbkdnkaaaPush
namespace Go.Proofs.Ytpjppolbkdnkaaa
open Go.RowKit
set_option linter.unusedVariables false
set_option linter.unusedSimpArgs false

section
variable {w0 w w' : World} {R : Nat} {lg : Sv} {los wr : Value} {H : List Los} {O : List Ln} {K : List (Nat × Obj)}
/-- Where a transaction goes on behind a record. -/
def Ln.goesOn (y : Ln) : Int := if y.kind = 3 then y.next else y.prev
def clrLn (y : Ln) (s : Sv) : Ln := { Ln.zero with kind := 3, txn := y.txn, page := y.page, off := y.off, sa := s, next := y.prev }
/-- A slice of values, each of one cell, that may be read. -/
structure Byt (w : World) (s : Sv) (bs : List Value) : Prop where
  n : s.n = bs.length
  pos : 0 < bs.length
  small : bs.length ≤ 1000000
  one : ∀ u ∈ bs, u.oneCell' = true
  at' : ∃ b o, s.a = some ⟨b, o, none⟩ ∧ b < w.heap.size ∧ ∀ j u, bs[j]? = some u → w.cell? ((⟨b, o, none⟩ : Addr).add j) = some u
theorem Byt.below {s : Sv} {bs : List Value} (h : Byt w s bs) (hb : Below w.heap.size w w') : Byt w' s bs where
  n := h.n
  pos := h.pos
  small := h.small
  one := h.one
  at' := by
    obtain ⟨b, o, h1, h2, h3⟩ := h.at'
    exact ⟨b, o, h1, Nat.lt_of_lt_of_le h2 hb.size, fun j u hu => by
      have := h3 j u hu
      rw [Addr.add_mid] at this ⊢
      exact (hb.cell (p := ⟨b, o + j, none⟩) h2).trans this⟩
theorem UndoIs.addKeep (x : UndoIs w0 w R lg los wr H O K) (hb : Below w.heap.size w w') (g : Nat) (o : Obj) (hg : w.heap.size ≤ g) (ho : w'.heap[g]? = some o) : UndoIs w0 w' R lg los wr H O ((g, o) :: K) :=
  { x.stayD hb with
    keep := fun p hp => by
      rcases List.mem_cons.1 hp with rfl | h
      · exact ⟨ho, by have := x.lt; simp only; omega, fun e => by have := (x.heap.lt _ e).2; simp only at this; omega, fun e => by have := (x.rows.lt _ e).2; simp only at this; omega⟩
      · exact (x.stayD hb).keep p h }
theorem Try.info5 : (Try.prog.info? 5).map (fun i => (i.zero, i.size, i.bytes)) = some (some (.int .u8 0), 1, 1) := by kernel_rfl
theorem Try.buildClr (y : Ln) (s : Sv) (W : World) : (do pure (Next.value (← Instr.buildSlice 58 1 #[(0, .agg (recCells (clrLn y s)).toArray)])) : Sem Next).run Try.prog W = .ok (.value (.slice (some ⟨W.heap.size, 0, none⟩) 1 1)) (W.alloc (.cells (recCells (clrLn y s)).toArray 32)) := by
  have e : (Instr.buildSlice 58 1 #[(0, .agg (recCells (clrLn y s)).toArray)]).run Try.prog W = .ok (.slice (some ⟨W.heap.size, 0, none⟩) 1 1) (W.alloc (.cells (recCells (clrLn y s)).toArray 32)) := by kernel_rfl
  rw [Sem.run_bind, e]; rfl
theorem run_store58 (w : World) (p k : Nat) (u : Value) (ao : Option Addr) (m c : Nat) (h : w.cell? ⟨p, k, none⟩ = some u) (hf : w.frozen? ⟨p, k, none⟩ = false) :
    (Instr.storeAt 58 (.pointer (some ⟨p, k, none⟩)) (.slice ao m c)).run Try.prog w = .ok () (w.setCell ⟨p, k, none⟩ (.slice ao m c)) := by
  simp [go_sem, h, hf]
/-- What compensate leaves. -/
def Comp (y : Ln) (bs : List Value) (O : List Ln) (K : List (Nat × Obj)) (O' : List Ln) (K' : List (Nat × Obj)) : Prop :=
  ∀ P : List Ln → List (Nat × Obj) → Prop,
    (∀ (h : y.kind = 2) (g c : Nat) (cur : Array Value) (ht : cur.toList.take bs.length = bs), P (O ++ [clrLn y ⟨some ⟨g, 0, none⟩, bs.length, c⟩]) ((g, .cells cur 5 (0, 0)) :: K)) →
    (∀ (h : y.kind ≠ 2), P O K) →
    P O' K'
theorem Comp.upd {y : Ln} {bs : List Value} {O : List Ln} {K : List (Nat × Obj)} (h : y.kind = 2) (g c : Nat) (cur : Array Value) (ht : cur.toList.take bs.length = bs) : Comp y bs O K (O ++ [clrLn y ⟨some ⟨g, 0, none⟩, bs.length, c⟩]) ((g, .cells cur 5 (0, 0)) :: K) := fun P hP1 hP2 => hP1 h g c cur ht
theorem Comp.not {y : Ln} {bs : List Value} {O : List Ln} {K : List (Nat × Obj)} (h : y.kind ≠ 2) : Comp y bs O K O K := fun P hP1 hP2 => hP2 h
theorem Comp.ind {y : Ln} {bs : List Value} {O : List Ln} {K : List (Nat × Obj)} {motive : (O' : List Ln) → (K' : List (Nat × Obj)) → Comp y bs O K O' K' → Prop}
    (upd : ∀ (h : y.kind = 2) (g c : Nat) (cur : Array Value) (ht : cur.toList.take bs.length = bs), motive (O ++ [clrLn y ⟨some ⟨g, 0, none⟩, bs.length, c⟩]) ((g, .cells cur 5 (0, 0)) :: K) (.upd h g c cur ht))
    (not : ∀ (h : y.kind ≠ 2), motive O K (.not h))
    {O' : List Ln} {K' : List (Nat × Obj)} (h : Comp y bs O K O' K') : motive O' K' h := by
  obtain ⟨_, hm⟩ := h (fun O' K' => ∃ c : Comp y bs O K O' K', motive O' K' c)
    (fun h g c cur ht => ⟨.upd h g c cur ht, upd h g c cur ht⟩)
    (fun h => ⟨.not h, not h⟩)
  exact hm
set_option maxHeartbeats 4000000 in
set_option maxRecDepth 100000 in
theorem compensate_any (x : UndoIs w0 w R lg los wr H O K) (y : Ln) (bs : List Value) (hB : y.kind = 2 → Byt w y.sb bs) (hO : O.length ≤ 100000) :
    Calls Try.prog 59 #[.pointer (some ⟨R, 0, none⟩), .agg (recCells y).toArray] w fun e w' => e = .returned (.int .i64 y.goesOn) ∧ ∃ wr' O' K', UndoIs w0 w' R lg los wr' H O' K' ∧ Comp y bs O K O' K' := by
  obtain ⟨g, hgs⟩ : ∃ g, w.heap.size = g := ⟨_, rfl⟩
  obtain ⟨x1, hx1⟩ : ∃ x1, w.alloc (.cells (recCells y).toArray 32) = x1 := ⟨_, rfl⟩
  have hB1 : Below w.heap.size w x1 := by rw [← hx1]; exact (Below.refl _ _).alloc (Nat.le_refl _) _
  have hG1 : x1.heap[g]? = some (.cells (recCells y).toArray 32 (0, 0)) := by rw [← hx1, ← hgs]; exact heap_alloc_new _ _
  have hgl1 : g < x1.heap.size := (Array.getElem?_eq_some_iff.1 hG1).1
  have HX1 := hide (x.stayD hB1)
  have hgR : g ≠ R := by have := x.lt; omega
  have hgW : wr.ownBlock ≠ some g := fun e => by have := (x.rows.lt g e).2; omega
  have d0 : x1.cell? ⟨g, 0, none⟩ = some (.int .i64 y.kind) := by rw [cell_of_row _ _ _ _ _ _ hG1]; rfl
  have d2 : x1.cell? ⟨g, 2, none⟩ = some (.int .i64 y.prev) := by rw [cell_of_row _ _ _ _ _ _ hG1]; rfl
  have d3 : x1.cell? ⟨g, 3, none⟩ = some (.int .i64 y.next) := by rw [cell_of_row _ _ _ _ _ _ hG1]; rfl
  have HG1 := hide hG1
  by_cases h2 : y.kind = 2
  · have hB := (hB h2).below hB1
    obtain ⟨b, o, hsa, hbl, hsrc⟩ := hB.at'
    have d6 : x1.cell? ⟨g, 6, none⟩ = some (.slice (some ⟨b, o, none⟩) bs.length y.sb.c) := by rw [cell_of_row _ _ _ _ _ _ hG1, ← hsa, ← hB.n]; rfl
    have HSRCB := hide hsrc
    have hone := hide hB.one
    have hpos := hB.pos
    have hsmall := hB.small
    have hgo : y.goesOn = y.prev := by unfold Ln.goesOn; rw [if_neg (by omega)]
    rw [hgo]
    have H2 := hide h2
    have hb2 : (y.kind == 2) = true := by simp [h2]
    clear x h2 hgo hB hsa hbl hsrc hG1 hB1
    unfold recCells at hx1 ⊢
    go_enter Try.func59, Try.ntmps59
    go_upto_region 1 with fail
    first | rw [hx1, hgs] | rw [hgs] | skip
    clear hx1 hgs
    go_upto_region 4 with (refine wpList_append_owned (by rfl) _ _ 30 (by rfl) 5 (.int .u8 0) 1 1 Try.underlying30 Try.info5 rfl (by omega) (.slice none 0 0) 0 [] (by rfl) (owns_zero (World.ownsRow_nil x1 x1.heap.size 5 1)) ⟨b, o, none⟩ bs.length y.sb.c bs (by rfl) (by rw [Nat.mul_one]) HSRCB.out hone.out (by simp only [maxLen]; omega) (by omega) (fun v5 w5 r1 r2 r3 => ?_)
                           obtain ⟨g5, c5, cur5, hv5, q1, q2, q3, q4, q5, q6⟩ := own_some r1 (by omega)
                           have hv5' : v5 = .slice (some ⟨g5, 0, none⟩) (0 + bs.length) c5 := hv5
                           subst hv5'
                           have HR3 := hide (r3 g5 rfl)
                           have HR := hide (And.intro r2 (And.intro q2 q6))
                           clear r1 r2 r3 q1 q2 q3 q4 q5 q6 hv5)
    have hb5 : Below x1.heap.size x1 w5 := ⟨HR.out.1.os, HR.out.1.tape, HR.out.1.output, HR.out.1.size, fun k hk => HR.out.1.block k hk (by simp [Value.ownBlock])⟩
    have hg5 : x1.heap.size ≤ g5 := by
      rcases HR3.out with h | h
      · simp [Value.ownBlock] at h
      · exact h
    have HX5 := hide (HX1.out.addKeep hb5 g5 _ hg5 HR.out.2.1)
    have HT5 : Hid (cur5.toList.take bs.length = bs) := by
      have := HR.out.2.2
      rw [Nat.zero_add, Nat.mul_one, List.nil_append] at this
      exact this
    have hG5 : w5.heap[g]? = some (.cells (recCells y).toArray 32 (0, 0)) := (hb5.block g hgl1).trans HG1.out
    have hgl5 : g < w5.heap.size := (Array.getElem?_eq_some_iff.1 hG5).1
    try rw [Nat.zero_add]
    obtain ⟨ao, mo, co, hwr⟩ := own_form (owns_zero HX5.out.rows)
    subst hwr
    have c8 := HX5.out.c8
    obtain ⟨s, hs⟩ : ∃ s : Sv, s = ⟨some ⟨g5, 0, none⟩, bs.length, c5⟩ := ⟨_, rfl⟩
    have hsv : (Value.slice (some ⟨g5, 0, none⟩) bs.length c5) = .slice s.a s.n s.c := by rw [hs]
    have HS := hide hs
    rw [hsv]
    clear hs hsv d0 d2 d3 d6 HSRCB HR3 HR hb5 hg5
    have HOWN : Hid ((w5.drew.alloc (.cells (recCells (clrLn y s)).toArray 32)).ownsRow 0 32 11 (.slice ao mo co) O.length (recRow O)) := owns_of_block (owns_zero HX5.out.rows) (fun b hb => Below.heap_alloc w5.drew _ b (HX5.out.rows.lt b hb).2)
    have HSRC : Hid (∀ j u, (recCells (clrLn y s))[j]? = some u → (w5.drew.alloc (.cells (recCells (clrLn y s)).toArray 32)).cell? ((⟨w5.heap.size, 0, none⟩ : Addr).add j) = some u) := src_of_block (heap_alloc_new w5.drew _)
    have HO1 : Hid (Off [] w5 (w5.drew.alloc (.cells (recCells (clrLn y s)).toArray 32))) := ((Off.refl _ w5).drew).alloc _
    have HK8 : Hid ((w5.drew.alloc (.cells (recCells (clrLn y s)).toArray 32)).cell? ⟨R, 8, none⟩ = some (.slice ao mo co)) := (World.cell?_of_block (a := ⟨R, 8, none⟩) (HO1.out.block R HX5.out.lt (by simp))).trans c8
    have HS1 : Hid ((w5.drew.alloc (.cells (recCells (clrLn y s)).toArray 32)).heap[g]? = some (.cells (recCells y).toArray 32 (0, 0))) := (HO1.out.block g hgl5 (by simp)).trans hG5
    have hsz := HX5.out.below.size
    refine wp_region_held_drew (S := fun w' => w'.heap[g]? = some (.cells (recCells y).toArray 32 (0, 0))) (by kernel_rfl) hG5 (fun hH' => ?_)
    refine take_to 0 13 (.pointer (some ⟨R, 0, none⟩)) rfl (by kernel_rfl) (by kernel_rfl) (by kernel_rfl) (fun _ _ _ h => h) rfl (by rfl) (fun w hw => by rfl) hH' ?_
    simp only [Act.put, List.setIfInBounds_toArray, List.set_cons_zero, List.set_cons_succ]
    refine take_to 1 14 (.pointer (some ⟨R, 0, none⟩)) rfl (by kernel_rfl) (by kernel_rfl) (by kernel_rfl) (fun _ _ _ h => h) rfl (by rfl) (fun w hw => by rfl) hH' ?_
    simp only [Act.put, List.setIfInBounds_toArray, List.set_cons_zero, List.set_cons_succ]
    refine take_to 2 15 (.pointer (some ⟨R, 0, none⟩)) rfl (by kernel_rfl) (by kernel_rfl) (by kernel_rfl) (fun _ _ _ h => h) rfl (by rfl) (fun w hw => by rfl) hH' ?_
    simp only [Act.put, List.setIfInBounds_toArray, List.set_cons_zero, List.set_cons_succ]
    refine take_to 3 16 (.pointer (some ⟨R, 8, none⟩)) rfl (by kernel_rfl) (by kernel_rfl) (by kernel_rfl) (fun _ _ _ h => h) rfl (by rfl) (fun w hw => by kernel_rfl) hH' ?_
    simp only [Act.put, List.setIfInBounds_toArray, List.set_cons_zero, List.set_cons_succ]
    refine take_to 5 18 (.pointer (some ⟨g, 1, none⟩)) rfl (by kernel_rfl) (by kernel_rfl) (by kernel_rfl) (fun _ _ _ h => h) rfl (by rfl) (fun w hw => by kernel_rfl) hH' ?_
    simp only [Act.put, List.setIfInBounds_toArray, List.set_cons_zero, List.set_cons_succ]
    refine take_to 6 19 (.int .i64 y.txn) rfl (by kernel_rfl) (by kernel_rfl) (by kernel_rfl) (fun _ _ _ h => h) rfl (by rfl) (fun w hw => op_load _ _ 3 (.tmp 18) rfl (.pointer (some ⟨g, 1, none⟩)) _ rfl (run_loadAny w g 1 3 _ Try.isAgg3 (by rw [cell_of_row _ _ _ _ _ _ hw]; rfl))) hH' ?_
    simp only [Act.put, List.setIfInBounds_toArray, List.set_cons_zero, List.set_cons_succ]
    refine take_to 7 20 (.pointer (some ⟨g, 4, none⟩)) rfl (by kernel_rfl) (by kernel_rfl) (by kernel_rfl) (fun _ _ _ h => h) rfl (by rfl) (fun w hw => by kernel_rfl) hH' ?_
    simp only [Act.put, List.setIfInBounds_toArray, List.set_cons_zero, List.set_cons_succ]
    refine take_to 8 21 (.int .i64 y.page) rfl (by kernel_rfl) (by kernel_rfl) (by kernel_rfl) (fun _ _ _ h => h) rfl (by rfl) (fun w hw => op_load _ _ 3 (.tmp 20) rfl (.pointer (some ⟨g, 4, none⟩)) _ rfl (run_loadAny w g 4 3 _ Try.isAgg3 (by rw [cell_of_row _ _ _ _ _ _ hw]; rfl))) hH' ?_
    simp only [Act.put, List.setIfInBounds_toArray, List.set_cons_zero, List.set_cons_succ]
    refine take_to 9 22 (.pointer (some ⟨g, 5, none⟩)) rfl (by kernel_rfl) (by kernel_rfl) (by kernel_rfl) (fun _ _ _ h => h) rfl (by rfl) (fun w hw => by kernel_rfl) hH' ?_
    simp only [Act.put, List.setIfInBounds_toArray, List.set_cons_zero, List.set_cons_succ]
    refine take_to 10 23 (.int .i64 y.off) rfl (by kernel_rfl) (by kernel_rfl) (by kernel_rfl) (fun _ _ _ h => h) rfl (by rfl) (fun w hw => op_load _ _ 3 (.tmp 22) rfl (.pointer (some ⟨g, 5, none⟩)) _ rfl (run_loadAny w g 5 3 _ Try.isAgg3 (by rw [cell_of_row _ _ _ _ _ _ hw]; rfl))) hH' ?_
    simp only [Act.put, List.setIfInBounds_toArray, List.set_cons_zero, List.set_cons_succ]
    refine take_to 11 24 (.slice s.a s.n s.c) rfl (by kernel_rfl) (by kernel_rfl) (by kernel_rfl) (fun _ _ _ h => h) rfl (by rfl) (fun w hw => by rfl) hH' ?_
    simp only [Act.put, List.setIfInBounds_toArray, List.set_cons_zero, List.set_cons_succ]
    refine take_to 12 25 (.pointer (some ⟨g, 2, none⟩)) rfl (by kernel_rfl) (by kernel_rfl) (by kernel_rfl) (fun _ _ _ h => h) rfl (by rfl) (fun w hw => by kernel_rfl) hH' ?_
    simp only [Act.put, List.setIfInBounds_toArray, List.set_cons_zero, List.set_cons_succ]
    refine take_to 13 26 (.int .i64 y.prev) rfl (by kernel_rfl) (by kernel_rfl) (by kernel_rfl) (fun _ _ _ h => h) rfl (by rfl) (fun w hw => op_load _ _ 3 (.tmp 25) rfl (.pointer (some ⟨g, 2, none⟩)) _ rfl (run_loadAny w g 2 3 _ Try.isAgg3 (by rw [cell_of_row _ _ _ _ _ _ hw]; rfl))) hH' ?_
    simp only [Act.put, List.setIfInBounds_toArray, List.set_cons_zero, List.set_cons_succ]
    refine take_to 14 27 (.agg (recCells (clrLn y s)).toArray) rfl (by kernel_rfl) (by kernel_rfl) (by kernel_rfl) (fun _ _ _ h => h) rfl (by rfl) (fun w hw => by kernel_rfl) hH' ?_
    simp only [Act.put, List.setIfInBounds_toArray, List.set_cons_zero, List.set_cons_succ]
    refine wpAnyH_all (rs := [4, 15]) (by kernel_rfl) (by simp) ?_
    intro n hn
    rcases (by simpa using hn : n = 4 ∨ n = 15) with rfl | rfl
    refine op_to 17 (.slice ao mo co) _ rfl rfl (by rfl) (op_load _ _ 58 (.tmp 16) rfl (.pointer (some ⟨R, 8, none⟩)) _ rfl (run_loadAny _ R 8 58 _ Try.isAgg58 c8)) ⟨hH', ?_⟩
    simp only [Act.put, List.setIfInBounds_toArray, List.set_cons_zero, List.set_cons_succ]
    refine step_to 15 28 (.slice (some ⟨w5.heap.size, 0, none⟩) 1 1) (w5.drew.alloc (.cells (recCells (clrLn y s)).toArray 32)) rfl (by kernel_rfl) rfl (by rfl) (by rw [buildSlice_op _ _ 58 1 0 (.tmp 27) rfl _ rfl]; exact Try.buildClr _ _ _) HS1.out ?_
    simp only [Act.put, List.setIfInBounds_toArray, List.set_cons_zero, List.set_cons_succ]
    rotate_left
    refine op_to 28 (.slice (some ⟨w5.heap.size, 0, none⟩) 1 1) (w5.drew.alloc (.cells (recCells (clrLn y s)).toArray 32)) rfl rfl (by rfl) (by rw [buildSlice_op _ _ 58 1 0 (.tmp 27) rfl _ rfl]; exact Try.buildClr _ _ _) ⟨HS1.out, ?_⟩
    simp only [Act.put, List.setIfInBounds_toArray, List.set_cons_zero, List.set_cons_succ]
    refine step_to 4 17 (.slice ao mo co) _ rfl (by kernel_rfl) rfl (by rfl) (op_load _ _ 58 (.tmp 16) rfl (.pointer (some ⟨R, 8, none⟩)) _ rfl (run_loadAny _ R 8 58 _ Try.isAgg58 HK8.out)) HS1.out ?_
    simp only [Act.put, List.setIfInBounds_toArray, List.set_cons_zero, List.set_cons_succ]
    all_goals
      refine step_append_to 16 29 rfl (by kernel_rfl) rfl rfl (.tmp 17) (.tmp 28) 58 rfl 32 (.agg (recCells Ln.zero).toArray) 11 152 Try.underlying58 Try.info32 rfl (by omega) (.slice ao mo co) O.length (recRow O) rfl HOWN.out ⟨w5.heap.size, 0, none⟩ 1 1 (recCells (clrLn y s)) rfl rfl HSRC.out (by intro u hu; simp [recCells] at hu; rcases hu with rfl | rfl | rfl | rfl | rfl | rfl | rfl | rfl | rfl | rfl | rfl <;> rfl) (by simp only [maxLen]; omega) (by omega) (fun v4 w6 ra rb rc => ?_)
      obtain ⟨hI6, q1, q2⟩ := HX5.out.wrote (clrLn y s) HO1.out (owns_base ra (fun k hk => by
        rcases rc k hk with h | h
        · exact (HX5.out.rows.lt k h).1
        · have := HO1.out.size; omega)) rb rc
      have hS6 : w6.heap[g]? = some (.cells (recCells y).toArray 32 (0, 0)) := (rb.block g (Nat.lt_of_lt_of_le hgl5 HO1.out.size) (fun e => hgW e.symm)).trans HS1.out
      refine ⟨hS6, ?_⟩
      simp only [Act.put, List.setIfInBounds_toArray, List.set_cons_zero, List.set_cons_succ]
      obtain ⟨ao4, m4, c4, rfl⟩ := own_form ra
      refine step_to 17 30 (.pointer (some ⟨R, 0, none⟩)) w6 rfl (by kernel_rfl) rfl (by rfl) (rfl) hS6 ?_
      simp only [Act.put, List.setIfInBounds_toArray, List.set_cons_zero, List.set_cons_succ]
      refine step_to 18 31 (.pointer (some ⟨R, 8, none⟩)) w6 rfl (by kernel_rfl) rfl (by rfl) (by kernel_rfl) hS6 ?_
      simp only [Act.put, List.setIfInBounds_toArray, List.set_cons_zero, List.set_cons_succ]
      have hS7 : (w6.setCell ⟨R, 8, none⟩ (.slice ao4 m4 c4)).heap[g]? = some (.cells (recCells y).toArray 32 (0, 0)) := (heap_setCell_other w6 _ g _ (by exact hgR)).trans hS6
      have d2' : (w6.setCell ⟨R, 8, none⟩ (.slice ao4 m4 c4)).cell? ⟨g, 2, none⟩ = some (.int .i64 y.prev) := by rw [cell_of_row _ _ _ _ _ _ hS7]; rfl
      refine step_store_to 19 _ rfl (by kernel_rfl) rfl (by rfl) 58 (.tmp 31) (.tmp 29) rfl _ _ rfl rfl (run_store58 w6 R 8 _ ao4 _ c4 q1 q2) hS7 ?_
      refine wpAnyH_done (by kernel_rfl) ?_ _
      have HI7 := hide hI6
      obtain ⟨w7, hw7⟩ : ∃ w7, w6.setCell ⟨R, 8, none⟩ (.slice ao4 m4 c4) = w7 := ⟨_, rfl⟩
      rw [hw7] at d2' HI7 ⊢
      clear hH' hS6 hS7 ra rb rc q1 q2 hI6 HSRC HOWN HO1 HK8 c8 HS1 hG5 hw7
      go_wp2
      go_ret
      refine ⟨rfl, _, _, _, HI7.out, ?_⟩
      rw [HS.out]
      exact Comp.upd H2.out g5 c5 cur5 HT5.out
  · have H2 := hide h2
    have hb2 : (y.kind == 2) = false := beq_eq_false_iff_ne.2 h2
    by_cases h3 : y.kind = 3
    · have hgo : y.goesOn = y.next := by unfold Ln.goesOn; rw [if_pos h3]
      have hb3 : (y.kind == 3) = true := by simp [h3]
      rw [hgo]
      clear x h2 h3 hgo hG1 hB1 hB
      unfold recCells at hx1 ⊢
      go_enter Try.func59, Try.ntmps59
      go_upto_region 1 with fail
      first | rw [hx1, hgs] | rw [hgs] | skip
      clear hx1 hgs
      go_wp2
      go_ret
      exact ⟨rfl, _, _, _, HX1.out, Comp.not H2.out⟩
    · have hgo : y.goesOn = y.prev := by unfold Ln.goesOn; rw [if_neg h3]
      have hb3 : (y.kind == 3) = false := beq_eq_false_iff_ne.2 h3
      rw [hgo]
      clear x h2 h3 hgo hG1 hB1 hB
      unfold recCells at hx1 ⊢
      go_enter Try.func59, Try.ntmps59
      go_upto_region 1 with fail
      first | rw [hx1, hgs] | rw [hgs] | skip
      clear hx1 hgs
      go_wp2
      go_ret
      exact ⟨rfl, _, _, _, HX1.out, Comp.not H2.out⟩
end
end Go.Proofs.Ytpjppolbkdnkaaa
