/- Levels of truths; whether a value is of a type. -/
import Derived.Test.YtigafjdacllohaaDoorMth
namespace Go.Proofs.YtigafjdacllohaaDoor
open Go.RowKit
set_option linter.unusedVariables false
set_option linter.unusedSimpArgs false
set_option maxRecDepth 100000

def lvl (V : Vl) : Int := if V.ty = 0 then 1 else if V.b = true then 2 else 0
def truthOf (k : Int) : Vl := if k = 1 then Vl.zero else bV (k == 2)
def isV (V : Vl) (t : Int) : Bool := decide (V.ty = t ∨ V.ty = 0)
theorem lvl_or (V : Vl) : lvl V = 0 ∨ lvl V = 1 ∨ lvl V = 2 := by
  unfold lvl
  split
  · exact .inr (.inl rfl)
  · split
    · exact .inr (.inr rfl)
    · exact .inl rfl
theorem op_min3 (ρ : Operand → Value) (o : Oper) (x y : Operand) (ho : o.op = .call { callee := .builtin .min, args := #[x, y], argTypes := #[3, 3] }) (n m : Int) (hn : n = 0 ∨ n = 1 ∨ n = 2) (hm : m = 0 ∨ m = 1 ∨ m = 2) (hx : ρ x = .int .i64 n) (hy : ρ y = .int .i64 m) {w : World} : (execOp ρ o).run Tryd.prog w = .ok (.value (.int .i64 (min n m))) w := by
  have hr := run_min_int2 (P := Tryd.prog) (w := w) #[3, 3] o.type .i64 .i64 n m
  have hk : (if m < n then m else n) = min n m := by rcases hn with rfl | rfl | rfl <;> rcases hm with rfl | rfl | rfl <;> rfl
  rw [hk] at hr
  generalize min n m = k at *
  simp [execOp, ho, resolve, invoke, builtin, hx, hy, hr, Result.andThen]
theorem op_max3 (ρ : Operand → Value) (o : Oper) (x y : Operand) (ho : o.op = .call { callee := .builtin .max, args := #[x, y], argTypes := #[3, 3] }) (n m : Int) (hn : n = 0 ∨ n = 1 ∨ n = 2) (hm : m = 0 ∨ m = 1 ∨ m = 2) (hx : ρ x = .int .i64 n) (hy : ρ y = .int .i64 m) {w : World} : (execOp ρ o).run Tryd.prog w = .ok (.value (.int .i64 (max n m))) w := by
  have hr := run_max_int2 (P := Tryd.prog) (w := w) #[3, 3] o.type .i64 .i64 n m
  have hk : (if m > n then m else n) = max n m := by rcases hn with rfl | rfl | rfl <;> rcases hm with rfl | rfl | rfl <;> rfl
  rw [hk] at hr
  generalize max n m = k at *
  simp [execOp, ho, resolve, invoke, builtin, hx, hy, hr, Result.andThen]
set_option maxHeartbeats 1000000 in
theorem level_any (V : Vl) (w : World) : Calls Tryd.prog 55 #[valOf V] w fun e w' => e = .returned (.int .i64 (lvl V)) ∧ Below w.heap.size w w' := by
  have HB : Hid (Below w.heap.size w (w.alloc (.cells #[.int .i64 V.ty, .int .i64 V.n, .string (strOf V.t), .bool V.b] 23))) := (Below.refl _ w).alloc (Nat.le_refl _) _
  unfold valOf
  by_cases h : V.ty = 0
  · have HL : Hid (lvl V = 1) := if_pos h
    rw [h] at HB ⊢
    clear h
    go_enter Tryd.func55, Tryd.ntmps55
    go_wp2
    go_ret
    rw [HL.out]
    exact ⟨rfl, HB.out⟩
  · have k : (V.ty == 0) = false := beq_eq_false_iff_ne.2 h
    have HL : Hid (lvl V = if V.b = true then 2 else 0) := if_neg h
    clear h
    generalize V.b = b at *
    cases b
    · go_enter Tryd.func55, Tryd.ntmps55
      go_wp2
      go_ret
      rw [HL.out]
      exact ⟨rfl, HB.out⟩
    · go_enter Tryd.func55, Tryd.ntmps55
      go_wp2
      go_ret
      rw [HL.out]
      exact ⟨rfl, HB.out⟩
set_option maxHeartbeats 1000000 in
theorem truth_any (k : Int) (w : World) : Calls Tryd.prog 54 #[.int .i64 k] w fun e w' => e = .returned (valOf (truthOf k)) ∧ Below w.heap.size w w' := by
  by_cases h : k = 1
  · subst h
    go_enter Tryd.func54, Tryd.ntmps54
    go_wp2
    refine bodyPost_ret (v := valOf Vl.zero) (results_cell_row Tryd.results54 _ _ w.heap.size 23 _ (0, 0) _ rfl (heap_alloc_new _ _) Tryd.underlying23 rfl Tryd.size23) rfl ?_
    exact ⟨rfl, (Below.refl _ w).alloc (Nat.le_refl _) _⟩
  · have h1 : (k == 1) = false := beq_eq_false_iff_ne.2 h
    have HT : Hid (truthOf k = bV (k == 2)) := if_neg h
    clear h
    go_enter Tryd.func54, Tryd.ntmps54
    go_wp2
    refine bodyPost_ret (v := valOf (bV (k == 2))) (results_cell_row Tryd.results54 _ _ w.heap.size 23 _ (0, 0) _ rfl (heap_alloc_new _ _) Tryd.underlying23 rfl Tryd.size23) rfl ?_
    rw [HT.out]
    exact ⟨rfl, (Below.refl _ w).alloc (Nat.le_refl _) _⟩
set_option maxHeartbeats 1000000 in
theorem is_any (V : Vl) (t : Int) (w : World) : Calls Tryd.prog 48 #[valOf V, .int .i64 t] w fun e w' => e = .returned (.bool (isV V t)) ∧ Below w.heap.size w w' := by
  have HB : Hid (Below w.heap.size w (w.alloc (.cells #[.int .i64 V.ty, .int .i64 V.n, .string (strOf V.t), .bool V.b] 23))) := (Below.refl _ w).alloc (Nat.le_refl _) _
  unfold valOf
  by_cases h1 : V.ty = t
  · have HI : Hid (isV V t = true) := decide_eq_true (.inl h1)
    have k1 : (V.ty == t) = true := beq_iff_eq.2 h1
    clear h1
    go_enter Tryd.func48, Tryd.ntmps48
    go_wp2
    go_ret
    rw [HI.out]
    exact ⟨rfl, HB.out⟩
  · have k1 : (V.ty == t) = false := beq_eq_false_iff_ne.2 h1
    by_cases h0 : V.ty = 0
    · have HI : Hid (isV V t = true) := decide_eq_true (.inr h0)
      have k0 : (V.ty == 0) = true := beq_iff_eq.2 h0
      clear h0 h1
      go_enter Tryd.func48, Tryd.ntmps48
      go_wp2
      go_ret
      rw [HI.out]
      exact ⟨rfl, HB.out⟩
    · have HI : Hid (isV V t = false) := decide_eq_false (by omega)
      have k0 : (V.ty == 0) = false := beq_eq_false_iff_ne.2 h0
      clear h0 h1
      go_enter Tryd.func48, Tryd.ntmps48
      go_wp2
      go_ret
      rw [HI.out]
      exact ⟨rfl, HB.out⟩
end Go.Proofs.YtigafjdacllohaaDoor
