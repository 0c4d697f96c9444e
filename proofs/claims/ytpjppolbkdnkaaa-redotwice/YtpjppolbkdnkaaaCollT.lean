/- slices.Collect of transactions. -/
import Derived.Test.YtpjppolbkdnkaaaValsT
namespace Go.Proofs.Ytpjppolbkdnkaaa
open Go.RowKit Go.Shelf
set_option linter.unusedVariables false
set_option linter.unusedSimpArgs false
attribute [local go_sem] Oper.semAt_some

def txRow (ss : List Tx) : List Value := ss.flatMap txCells
theorem Try.info47 : (Try.prog.info? 47).map (fun i => (i.zero, i.size, i.bytes)) = some (some (.agg (txCells Tx.zero).toArray), 3, 24) := by kernel_rfl
theorem Try.buildTx (a b c : Int) (w : World) : (Instr.buildSlice 25 1 #[(0, .agg #[.int .i64 a, .int .i64 b, .int .i64 c])]).run Try.prog w = .ok (.slice (some ⟨w.heap.size, 0, none⟩) 1 1) (w.alloc (.cells #[.int .i64 a, .int .i64 b, .int .i64 c] 47)) := by kernel_rfl

set_option maxRecDepth 100000 in
set_option maxHeartbeats 2000000 in
theorem appendSeqT_in (F : Fence) (n : Nat) (h72 : F.fn 72) (h48 : F.fn 48) (hro : F.round = none) (hn : 3 ≤ n) (Bm b nn : Nat) (f : Int → Option Tx) (w : World) (hBm : w.heap[Bm]? = some (.cells #[.map (some b)] 67 (0, 0))) (h : MapT w b nn f) (hnn : nn ≤ 1000000) :
    CallsIn F n Try.prog 72 #[.slice none 0 0, .func (.func 48) #[] #[.pointer (some ⟨Bm, 0, none⟩)]] w fun e w' => ∃ (v : Value) (ss : List Tx), e = .returned v ∧ ValsT f ss ∧ w'.ownsRow w.heap.size 47 3 v ss.length (txRow ss) ∧ Below w.heap.size w w' := by
  have h1 : 1 ≤ n := by omega
  obtain ⟨D, hown, hf⟩ := h
  have hlt := hown.lt
  have hsz := World.ownsMap.size_le hown
  obtain ⟨i0, hi, hz0, hz1, hz2⟩ := info_parts Try.info47
  refine callsIn_of_wp_marks Try.func72 rfl h72 ?_ hro
  simp only [Try.ntmps72, List.size_toArray, List.length_cons, List.length_nil, Nat.reduceAdd, Nat.reduceSub, Array.replicate_succ, Array.replicate_zero, List.push_toArray, List.append_toArray, List.nil_append, List.cons_append]
  gi_wp2
  have bS := Boxed.new w 25 (.slice none 0 0)
  have hB0 : Below w.heap.size w (w.alloc (.cells #[.slice none 0 0] 25)) := (Below.refl _ w).alloc (Nat.le_refl _) _
  have hs0 : (w.alloc (.cells #[.slice none 0 0] 25)).heap.size = w.heap.size + 1 := by simp
  obtain ⟨W0, hW0⟩ : ∃ W0, w.alloc (.cells #[.slice none 0 0] 25) = W0 := ⟨_, rfl⟩
  rw [hW0] at bS hB0 hs0 ⊢
  have hown0 : W0.ownsMap Try.prog 3 rT b nn D := by
    obtain ⟨es, clock, hb, Ft, hs, hD⟩ := hown
    exact ⟨es, clock, (hB0.block b hlt).trans hb, Ft, hs, hD⟩
  have hBm0 : W0.heap[Bm]? = some (.cells #[.map (some b)] 67 (0, 0)) := (hB0.block Bm (Array.getElem?_eq_some_iff.1 hBm).1).trans hBm
  clear hW0
  refine wpIn_rangeFunc_ownH hro h1 (gf := 48) (lb := #[.pointer (some ⟨Bm, 0, none⟩)]) rfl h48 (enters_of Try.func48 (by kernel_rfl) rfl)
    (valuesT_stops F (n - 1) h48 hro (by omega) Bm b nn f D W0 hBm0 hown0 hf) walksK_t walksK_b (Below.refl _ _) (fun _ => rfl)
    (fun pre W => (∃ v, Boxed W w.heap.size 25 v ∧ W.ownsRow w.heap.size 47 3 v pre.length (txRow pre) ∧ True) ∧ Below w.heap.size w W)
    (fun c pre W => False)
    (OwnFrom.and (Own.from (holdsRow_own w.heap.size w.heap.size 25 47 3 List.length txRow (fun _ _ => True)) _) (ownFrom_below (Nat.le_refl _) (by omega)))
    (fun _ _ _ _ _ hs _ _ => hs)
    ⟨⟨_, bS, ⟨rfl, .inl ⟨rfl, rfl⟩⟩, trivial⟩, hB0⟩
    (fun x a' W => ∃ Bx, w.heap.size < Bx ∧ W.heap[Bx]? = some (.cells (txCells x).toArray 47 (0, 0)) ∧ a' = { tmps := #[.slice none 0 0, .func (.func 48) #[] #[.pointer (some ⟨Bm, 0, none⟩)], .pointer (some ⟨w.heap.size, 0, none⟩), undef, .slice none 0 0, .pointer (some ⟨Bx, 0, none⟩), .func (.func 48) #[] #[.pointer (some ⟨Bm, 0, none⟩)], .agg (txCells x).toArray, undef, undef, undef, undef, undef], defers := [] })
    (fun x a' _ X Y row hs hg hr => by obtain ⟨Bx, h1, h2, h3⟩ := hs; exact ⟨Bx, h1, cellsOwn h2 hg (fun r e => (hr r e).2), h3⟩)
    ?assign ?body ?done ?stop
  case assign =>
    rintro l pre x W K ⟨⟨v, bv, hrow, _⟩, hB1⟩ hK
    unfold encT txCells
    gi_wp2
    refine hK _ _ ((KeepsOthers.alloc _ _).from _) (KeepsWalks.alloc _ _) ⟨⟨v, bv.alloc _, hrow.alloc _, trivial⟩, hB1.alloc hB1.size _⟩ ⟨W.heap.size, bv.lt, heap_alloc_new _ _, rfl⟩
  case body =>
    rintro l pre x a' W hl hr ⟨⟨v, bv, hrow, _⟩, hB1⟩ ⟨Bx, hBx, bX, rfl⟩ hlt
    have cv := bv.cell
    have fv := bv.frozen
    have d0 : W.cell? ⟨Bx, 0, none⟩ = some (.int .i64 x.id) := by rw [cell_of_row _ _ _ _ _ _ bX]; rfl
    have d1 : W.cell? ⟨Bx, 1, none⟩ = some (.int .i64 x.last) := by rw [cell_of_row _ _ _ _ _ _ bX]; rfl
    have d2 : W.cell? ⟨Bx, 2, none⟩ = some (.int .i64 x.st) := by rw [cell_of_row _ _ _ _ _ _ bX]; rfl
    obtain ⟨ao0, mm0, cc0, rfl⟩ := own_form (owns_zero hrow)
    gi_wp2_with (gi_at_builtin; refine wpListIn_append_own _ rfl _ _ 25 rfl w.heap.size 47 i0 (.agg (txCells Tx.zero).toArray) 3 24 Try.underlying25 hi hz0 hz1 hz2 rfl (by decide) _ _ _ rfl (hrow.alloc _) ⟨W.heap.size, 0, none⟩ 1 1 (txCells x) rfl rfl (src_of_block (heap_alloc_new _ _)) (by simp [txCells, Value.oneCell']) (by simp only [maxLen]; omega) (by omega) (by have := hB1.size; simp; omega) ?_
                 intro v' w3 hown' hg3 hnil3
                 obtain ⟨b1, b2, b3, b4, b5⟩ := Boxed.appended bv (by decide) hrow hB1.size (Nat.le_refl _) hown' hg3
                 have cv3 := b1.cell
                 have fv3 := b1.frozen
                 obtain ⟨ao, mm, cc, rfl⟩ := own_form (owns_zero hown')
                 go_frame)
    refine ⟨b4.from _, b4.walks, ⟨⟨_, b2, ?_, trivial⟩, hB1.trans b5⟩⟩
    have e1 : (pre ++ [x]).length = pre.length + 1 := by simp
    have e2 : txRow (pre ++ [x]) = txRow pre ++ txCells x := by simp [txRow]
    rw [e1, e2]
    exact b3
  case done =>
    rintro Dd ys W hD hS ⟨⟨v, bv, hrow, _⟩, hB1⟩ hK
    have cv := bv.cell
    obtain ⟨ao0, mm0, cc0, rfl⟩ := own_form (owns_zero hrow)
    gi_wp2
    refine ⟨by simp, .inl ⟨_, _, rfl, run_takeDeferred hK, ?_⟩⟩
    refine ⟨_, results_tmp rfl _ _ _, _, ys, rfl, hS, ?_, hB1.trans (belowK_b (w := w) (Nat.le_refl _) W Dd _ _ (by omega) hK rfl rfl)⟩
    exact hrow.kept (grownBy_putObj' _ _ _) (ownsRow_ne_a hrow hK (fun cur e => by cases e))
  case stop =>
    rintro D c pre W _ _ h _
    exact h.elim
set_option maxHeartbeats 1000000 in
theorem collectT_in (F : Fence) (n : Nat) (h46 : F.fn 46) (h72 : F.fn 72) (h48 : F.fn 48) (hro : F.round = none) (hn : 4 ≤ n) (Bm b nn : Nat) (f : Int → Option Tx) (w : World) (hBm : w.heap[Bm]? = some (.cells #[.map (some b)] 67 (0, 0))) (h : MapT w b nn f) (hnn : nn ≤ 1000000) :
    CallsIn F n Try.prog 46 #[.func (.func 48) #[] #[.pointer (some ⟨Bm, 0, none⟩)]] w fun e w' => ∃ (v : Value) (ss : List Tx), e = .returned v ∧ ValsT f ss ∧ w'.ownsRow w.heap.size 47 3 v ss.length (txRow ss) ∧ Below w.heap.size w w' := by
  have h1 : 1 ≤ n := by omega
  refine callsIn_of_wp Try.func46 rfl h46 ?_ hro
  simp only [Try.ntmps46, List.size_toArray, List.length_cons, List.length_nil, Nat.reduceAdd, Nat.reduceSub, Array.replicate_succ, Array.replicate_zero, List.push_toArray, List.append_toArray, List.nil_append, List.cons_append]
  gi_wp2_with (gi_at_call 72; refine (appendSeqT_in F (n - 1) h72 h48 hro (by omega) Bm b nn f _ hBm h hnn).mono ?_; rintro e w' ⟨v, ss, rfl, hS, hrow, hb⟩)
  go_ret
  exact ⟨v, ss, rfl, hS, hrow, hb⟩
theorem collectT_any (Bm b nn : Nat) (f : Int → Option Tx) (w : World) (hBm : w.heap[Bm]? = some (.cells #[.map (some b)] 67 (0, 0))) (h : MapT w b nn f) (hnn : nn ≤ 1000000) :
    Calls Try.prog 46 #[.func (.func 48) #[] #[.pointer (some ⟨Bm, 0, none⟩)]] w fun e w' => ∃ (v : Value) (ss : List Tx), e = .returned v ∧ ValsT f ss ∧ w'.ownsRow w.heap.size 47 3 v ss.length (txRow ss) ∧ Below w.heap.size w w' :=
  (callsIn_wide (n := 6)).1 (collectT_in Fence.wide 6 trivial trivial trivial rfl (by omega) Bm b nn f w hBm h hnn)
end Go.Proofs.Ytpjppolbkdnkaaa
