/- Numbers of two words. -/
import Derived.Test.YtigafjdacllohaaDoorEqs
import Derived.Shelf.Spec.BitsCarry
namespace Go.Proofs.YtigafjdacllohaaDoor
open Go.RowKit
set_option linter.unusedVariables false
set_option linter.unusedSimpArgs false
set_option maxRecDepth 100000

def hiN (z : Int) : Nat := (z / 18446744073709551616 % 18446744073709551616).toNat
def loN (z : Int) : Nat := (z % 18446744073709551616).toNat
def wideV (z : Int) : Value := .agg #[.int .u64 (hiN z : Int), .int .u64 (loN z : Int)]
def small (n : Int) : Prop := -9223372036854775808 ≤ n ∧ n ≤ 9223372036854775807
theorem Tryd.size73 : (Tryd.prog.info? 73).map (·.size) = some 2 := by kernel_rfl
theorem first2 (w : World) (o o' : Obj) : ((w.alloc o).alloc o').heap[w.heap.size]? = some o := by
  rw [Below.heap_alloc _ _ _ (by simp)]
  exact heap_alloc_new w o
theorem wrap_lo (n : Int) : IntKind.u64.wrap n = (loN n : Int) := by rw [IntKind.wrap_u64]; unfold loN; omega
theorem add64 (x y c : Nat) (hc : c ≤ 1) (w : World) : (callFunc 78 #[.int .u64 x, .int .u64 y, .int .u64 c]).run Tryd.prog w =
    .ok (.value (.tuple #[.int .u64 (((x + y + c) % 18446744073709551616 : Nat) : Int), .int .u64 (((x + y + c) / 18446744073709551616 : Nat) : Int)])) w := by
  rw [run_callFunc_extern Tryd.func78 (by kernel_rfl) (by kernel_rfl) (by kernel_rfl) (e := add64Entry) (by kernel_rfl), run_add64 x y c (by omega) (by omega) (by omega) (by omega)]
  simp only [Result.andThen]
  congr 5 <;> omega
theorem sub64 (x y c : Nat) (hc : c ≤ 1) (w : World) : (callFunc 85 #[.int .u64 x, .int .u64 y, .int .u64 c]).run Tryd.prog w =
    .ok (.value (.tuple #[.int .u64 (((x + 18446744073709551616 - y - c) % 18446744073709551616 : Nat) : Int), .int .u64 ((if x < y + c then 1 else 0 : Nat) : Int)])) w := by
  rw [run_callFunc_extern Tryd.func85 (by kernel_rfl) (by kernel_rfl) (by kernel_rfl) (e := sub64Entry) (by kernel_rfl), run_sub64 x y c hc]
  rfl
theorem hi_add (a b : Int) : (hiN a + hiN b + (loN a + loN b + 0) / 18446744073709551616) % 18446744073709551616 = hiN (a + b) := by unfold hiN loN; omega
theorem lo_add (a b : Int) : (loN a + loN b + 0) % 18446744073709551616 = loN (a + b) := by unfold loN; omega
theorem hi_sub (a b : Int) (c : Nat) (h : c = if loN a < loN b + 0 then 1 else 0) : (hiN a + 18446744073709551616 - hiN b - c) % 18446744073709551616 = hiN (a - b) := by
  subst h
  split <;> (unfold hiN loN at *; omega)
theorem lo_sub (a b : Int) : (loN a + 18446744073709551616 - loN b - 0) % 18446744073709551616 = loN (a - b) := by unfold loN; omega
theorem lo_lt (a : Int) : loN a < 18446744073709551616 := by unfold loN; omega
theorem hi_lt (a : Int) : hiN a < 18446744073709551616 := by unfold hiN; omega
set_option maxHeartbeats 1000000 in
theorem widen_any (n : Int) (h : small n) (w : World) : Calls Tryd.prog 59 #[.int .i64 n] w fun e w' => e = .returned (wideV n) ∧ Below w.heap.size w w' := by
  have HC := wrap_lo n
  by_cases hn : n < 0
  · have HH : Hid ((hiN n : Int) = 18446744073709551615) := by unfold Hid hiN; unfold small at h; omega
    have d : decide (n < 0) = true := decide_eq_true hn
    have HW : Hid (wideV n = .agg #[.int .u64 (hiN n : Int), .int .u64 (loN n : Int)]) := rfl
    clear h hn
    go_enter Tryd.func59, Tryd.ntmps59
    go_wp2
    refine bodyPost_ret (v := .agg #[.int .u64 18446744073709551615, .int .u64 (loN n : Int)]) (results_cell_row Tryd.results59 _ _ w.heap.size 73 #[.int .u64 18446744073709551615, .int .u64 (loN n : Int)] (0, 0) _ rfl (first2 _ _ _) Tryd.underlying73 rfl Tryd.size73) rfl ?_
    rw [HW.out, HH.out]
    exact ⟨rfl, ((Below.refl _ w).alloc (Nat.le_refl _) _).alloc (by simp) _⟩
  · have HH : Hid ((hiN n : Int) = 0) := by unfold Hid hiN; unfold small at h; omega
    have d : decide (n < 0) = false := decide_eq_false hn
    have HW : Hid (wideV n = .agg #[.int .u64 (hiN n : Int), .int .u64 (loN n : Int)]) := rfl
    clear h hn
    go_enter Tryd.func59, Tryd.ntmps59
    go_wp2
    refine bodyPost_ret (v := .agg #[.int .u64 0, .int .u64 (loN n : Int)]) (results_cell_row Tryd.results59 _ _ w.heap.size 73 #[.int .u64 0, .int .u64 (loN n : Int)] (0, 0) _ rfl (first2 _ _ _) Tryd.underlying73 rfl Tryd.size73) rfl ?_
    rw [HW.out, HH.out]
    exact ⟨rfl, ((Below.refl _ w).alloc (Nat.le_refl _) _).alloc (by simp) _⟩
theorem third (w : World) (o o' o'' : Obj) : (((w.alloc o).alloc o').alloc o'').heap[w.heap.size + 2]? = some o'' := by
  have := heap_alloc_new ((w.alloc o).alloc o') o''
  rwa [show ((w.alloc o).alloc o').heap.size = w.heap.size + 2 by simp] at this
theorem below3 (w : World) (o o' o'' : Obj) : Below w.heap.size w (((w.alloc o).alloc o').alloc o'') := (((Below.refl _ w).alloc (Nat.le_refl _) _).alloc (by simp) _).alloc (by simp; omega) _
set_option maxHeartbeats 1000000 in
theorem plus_any (a b : Int) (w : World) : Calls Tryd.prog 58 #[wideV a, wideV b] w fun e w' => e = .returned (wideV (a + b)) ∧ Below w.heap.size w w' := by
  have HW : Hid (wideV (a + b) = .agg #[.int .u64 (hiN (a + b) : Int), .int .u64 (loN (a + b) : Int)]) := rfl
  have HH := hide (hi_add a b)
  have HL := hide (lo_add a b)
  have la := lo_lt a
  have lb := lo_lt b
  have HC : Hid ((loN a + loN b + 0) / 18446744073709551616 ≤ 1) := by unfold Hid; omega
  clear la lb
  have HA1 : Hid (∀ w, (callFunc 78 #[.int .u64 (loN a : Int), .int .u64 (loN b : Int), .int .u64 0]).run Tryd.prog w = .ok (.value (.tuple #[.int .u64 ((loN (a + b) : Nat) : Int), .int .u64 (((loN a + loN b + 0) / 18446744073709551616 : Nat) : Int)])) w) := fun w => by
    have := add64 (loN a) (loN b) 0 (by omega) w
    rw [lo_add] at this
    exact this
  generalize (loN a + loN b + 0) / 18446744073709551616 = c at *
  have HA2 : Hid (∀ w, (callFunc 78 #[.int .u64 (hiN a : Int), .int .u64 (hiN b : Int), .int .u64 (c : Int)]).run Tryd.prog w = .ok (.value (.tuple #[.int .u64 ((hiN (a + b) : Nat) : Int), .int .u64 (((hiN a + hiN b + c) / 18446744073709551616 : Nat) : Int)])) w) := fun w => by
    have := add64 (hiN a) (hiN b) c HC.out w
    rw [HH.out] at this
    exact this
  generalize (hiN a + hiN b + c) / 18446744073709551616 = c2 at *
  unfold wideV
  clear HH HL
  generalize hiN (a + b) = h3 at *
  generalize loN (a + b) = l3 at *
  generalize hiN a = h1 at *
  generalize loN a = l1 at *
  generalize hiN b = h2 at *
  generalize loN b = l2 at *
  go_enter Tryd.func58, Tryd.ntmps58
  go_wp2_with (first | rw [HA1.out] | rw [HA2.out])
  refine bodyPost_ret (v := .agg #[.int .u64 (h3 : Int), .int .u64 (l3 : Int)]) (results_cell_row Tryd.results58 _ _ (w.heap.size + 2) 73 #[.int .u64 (h3 : Int), .int .u64 (l3 : Int)] (0, 0) _ rfl (third _ _ _ _) Tryd.underlying73 rfl Tryd.size73) rfl ?_
  exact ⟨rfl, below3 _ _ _ _⟩
end Go.Proofs.YtigafjdacllohaaDoor
