/- Values made, kinds of operations, what a comparison tells, levels of truths. -/
import Derived.Test.YtigafjdacllohaaDoorVals
import Derived.Laws.ResultCell
namespace Go.Proofs.YtigafjdacllohaaDoor
open Go.RowKit
set_option linter.unusedVariables false
set_option linter.unusedSimpArgs false
set_option maxRecDepth 100000

def nV (n : Int) : Vl := ⟨1, n, [], false⟩
def tV (t : List UInt8) : Vl := ⟨2, 0, t, false⟩
def bV (b : Bool) : Vl := ⟨3, 0, [], b⟩
theorem results_ct {fn : Func} {p u : Tmp} {ty : TypeId} (h : fn.results = #[.cell p ty, .tmp u]) (tmps : Array Value) (w : World) (g : Nat) (t : TypeId) (cs : Array Value) (fr : Nat × Nat) (d : TypeDesc)
    (hp : tmps.getD p undef = .pointer (some ⟨g, 0, none⟩)) (hg : w.heap[g]? = some (.cells cs t fr))
    (hu : Tryd.prog.underlying ty = some d) (hd : d.isRow = true) (hi : (Tryd.prog.info? ty).map (·.size) = some cs.size) :
    (results fn tmps).run Tryd.prog w = .ok (.tuple #[.agg cs, tmps.getD u undef]) w := by
  have hp' : tmps[p]?.getD undef = .pointer (some ⟨g, 0, none⟩) := by simpa using hp
  have hl := run_loadVar_mid (P := Tryd.prog) w g 0 ty cs.toList d (fun j v hv => by rw [Nat.zero_add, cell_row hg]; simpa using hv) hu hd (by rw [hi, Array.length_toList])
  simp [results, h, hp', asAddr, hl]
set_option maxHeartbeats 400000 in
theorem number_any (n : Int) (w : World) : Calls Tryd.prog 51 #[.int .i64 n] w fun e w' => e = .returned (valOf (nV n)) ∧ Below w.heap.size w w' := by
  go_enter Tryd.func51, Tryd.ntmps51
  go_wp2
  refine bodyPost_ret (v := .agg #[.int .i64 1, .int .i64 n, .string { data := #[] }, .bool false]) (results_cell_row Tryd.results51 _ _ w.heap.size 23 #[.int .i64 1, .int .i64 n, .string { data := #[] }, .bool false] (0, 0) _ rfl (heap_alloc_new _ _) Tryd.underlying23 rfl Tryd.size23) rfl ?_
  exact ⟨rfl, (Below.refl _ w).alloc (Nat.le_refl _) _⟩
set_option maxHeartbeats 400000 in
theorem lawInt_any (n : Int) (w : World) : Calls Tryd.prog 9 #[.int .i64 n] w fun e w' => e = .returned (valOf (nV n)) ∧ Below w.heap.size w w' := by
  go_enter Tryd.func9, Tryd.ntmps9
  go_wp2
  refine bodyPost_ret (v := .agg #[.int .i64 1, .int .i64 n, .string { data := #[] }, .bool false]) (results_cell_row Tryd.results9 _ _ w.heap.size 23 #[.int .i64 1, .int .i64 n, .string { data := #[] }, .bool false] (0, 0) _ rfl (heap_alloc_new _ _) Tryd.underlying23 rfl Tryd.size23) rfl ?_
  exact ⟨rfl, (Below.refl _ w).alloc (Nat.le_refl _) _⟩
set_option maxHeartbeats 400000 in
theorem refInt_any (n : Int) (w : World) : Calls Tryd.prog 20 #[.int .i64 n] w fun e w' => e = .returned (valOf (nV n)) ∧ Below w.heap.size w w' := by
  go_enter Tryd.func20, Tryd.ntmps20
  go_wp2
  refine bodyPost_ret (v := .agg #[.int .i64 1, .int .i64 n, .string { data := #[] }, .bool false]) (results_cell_row Tryd.results20 _ _ w.heap.size 23 #[.int .i64 1, .int .i64 n, .string { data := #[] }, .bool false] (0, 0) _ rfl (heap_alloc_new _ _) Tryd.underlying23 rfl Tryd.size23) rfl ?_
  exact ⟨rfl, (Below.refl _ w).alloc (Nat.le_refl _) _⟩
set_option maxHeartbeats 400000 in
theorem lawText_any (t : List UInt8) (w : World) : Calls Tryd.prog 10 #[.string (strOf t)] w fun e w' => e = .returned (valOf (tV t)) ∧ Below w.heap.size w w' := by
  go_enter Tryd.func10, Tryd.ntmps10
  go_wp2
  refine bodyPost_ret (v := .agg #[.int .i64 2, .int .i64 0, .string (strOf t), .bool false]) (results_cell_row Tryd.results10 _ _ w.heap.size 23 #[.int .i64 2, .int .i64 0, .string (strOf t), .bool false] (0, 0) _ rfl (heap_alloc_new _ _) Tryd.underlying23 rfl Tryd.size23) rfl ?_
  exact ⟨rfl, (Below.refl _ w).alloc (Nat.le_refl _) _⟩
set_option maxHeartbeats 400000 in
theorem refTextOf_any (t : List UInt8) (w : World) : Calls Tryd.prog 49 #[.string (strOf t)] w fun e w' => e = .returned (valOf (tV t)) ∧ Below w.heap.size w w' := by
  go_enter Tryd.func49, Tryd.ntmps49
  go_wp2
  refine bodyPost_ret (v := .agg #[.int .i64 2, .int .i64 0, .string (strOf t), .bool false]) (results_cell_row Tryd.results49 _ _ w.heap.size 23 #[.int .i64 2, .int .i64 0, .string (strOf t), .bool false] (0, 0) _ rfl (heap_alloc_new _ _) Tryd.underlying23 rfl Tryd.size23) rfl ?_
  exact ⟨rfl, (Below.refl _ w).alloc (Nat.le_refl _) _⟩
set_option maxHeartbeats 400000 in
theorem lawTruth_any (b : Bool) (w : World) : Calls Tryd.prog 11 #[.bool b] w fun e w' => e = .returned (valOf (bV b)) ∧ Below w.heap.size w w' := by
  go_enter Tryd.func11, Tryd.ntmps11
  go_wp2
  refine bodyPost_ret (v := .agg #[.int .i64 3, .int .i64 0, .string { data := #[] }, .bool b]) (results_cell_row Tryd.results11 _ _ w.heap.size 23 #[.int .i64 3, .int .i64 0, .string { data := #[] }, .bool b] (0, 0) _ rfl (heap_alloc_new _ _) Tryd.underlying23 rfl Tryd.size23) rfl ?_
  exact ⟨rfl, (Below.refl _ w).alloc (Nat.le_refl _) _⟩
set_option maxHeartbeats 400000 in
theorem refTruth_any (b : Bool) (w : World) : Calls Tryd.prog 53 #[.bool b] w fun e w' => e = .returned (valOf (bV b)) ∧ Below w.heap.size w w' := by
  go_enter Tryd.func53, Tryd.ntmps53
  go_wp2
  refine bodyPost_ret (v := .agg #[.int .i64 3, .int .i64 0, .string { data := #[] }, .bool b]) (results_cell_row Tryd.results53 _ _ w.heap.size 23 #[.int .i64 3, .int .i64 0, .string { data := #[] }, .bool b] (0, 0) _ rfl (heap_alloc_new _ _) Tryd.underlying23 rfl Tryd.size23) rfl ?_
  exact ⟨rfl, (Below.refl _ w).alloc (Nat.le_refl _) _⟩
set_option maxHeartbeats 400000 in
theorem refNull_any (w : World) : Calls Tryd.prog 47 #[] w fun e w' => e = .returned (valOf (Vl.zero)) ∧ Below w.heap.size w w' := by
  go_enter Tryd.func47, Tryd.ntmps47
  go_wp2
  refine bodyPost_ret (v := .agg #[.int .i64 0, .int .i64 0, .string { data := #[] }, .bool false]) (results_cell_row Tryd.results47 _ _ w.heap.size 23 #[.int .i64 0, .int .i64 0, .string { data := #[] }, .bool false] (0, 0) _ rfl (heap_alloc_new _ _) Tryd.underlying23 rfl Tryd.size23) rfl ?_
  exact ⟨rfl, (Below.refl _ w).alloc (Nat.le_refl _) _⟩
def kindOf (op : Int) : Int := if op = 18 ∨ op = 19 ∨ op = 20 ∨ op = 21 ∨ op = 22 then 1 else if op = 23 then 2 else 0
set_option maxHeartbeats 1000000 in
theorem operands_any (op : Int) (w : World) : Calls Tryd.prog 41 #[.int .i64 op] w fun e w' => e = .returned (.int .i64 (kindOf op)) ∧ w' = w := by
  by_cases h18 : op = 18
  · subst h18
    go_enter Tryd.func41, Tryd.ntmps41
    go_wp2
    go_ret
    exact ⟨rfl, rfl⟩
  · have k18 : (op == 18) = false := beq_eq_false_iff_ne.2 h18
    by_cases h19 : op = 19
    · subst h19
      go_enter Tryd.func41, Tryd.ntmps41
      go_wp2
      go_ret
      exact ⟨rfl, rfl⟩
    · have k19 : (op == 19) = false := beq_eq_false_iff_ne.2 h19
      by_cases h20 : op = 20
      · subst h20
        go_enter Tryd.func41, Tryd.ntmps41
        go_wp2
        go_ret
        exact ⟨rfl, rfl⟩
      · have k20 : (op == 20) = false := beq_eq_false_iff_ne.2 h20
        by_cases h21 : op = 21
        · subst h21
          go_enter Tryd.func41, Tryd.ntmps41
          go_wp2
          go_ret
          exact ⟨rfl, rfl⟩
        · have k21 : (op == 21) = false := beq_eq_false_iff_ne.2 h21
          by_cases h22 : op = 22
          · subst h22
            go_enter Tryd.func41, Tryd.ntmps41
            go_wp2
            go_ret
            exact ⟨rfl, rfl⟩
          · have k22 : (op == 22) = false := beq_eq_false_iff_ne.2 h22
            by_cases h23 : op = 23
            · subst h23
              go_enter Tryd.func41, Tryd.ntmps41
              go_wp2
              go_ret
              exact ⟨rfl, rfl⟩
            · have k23 : (op == 23) = false := beq_eq_false_iff_ne.2 h23
              have HK : Hid (kindOf op = 0) := by unfold Hid kindOf; rw [if_neg (by omega), if_neg h23]
              clear h18 h19 h20 h21 h22 h23
              go_enter Tryd.func41, Tryd.ntmps41
              go_wp2
              go_ret
              rw [HK.out]
              exact ⟨rfl, rfl⟩
def isCmp (op : Int) : Bool := decide (9 ≤ op ∧ op ≤ 14)
def holdsB (op c : Int) : Bool := if op = 9 then c == 0 else if op = 10 then c != 0 else if op = 11 then decide (c < 0) else if op = 12 then decide (c ≤ 0) else if op = 13 then decide (0 < c) else if op = 14 then decide (0 ≤ c) else false
set_option maxHeartbeats 2000000 in
theorem holds_any (op c : Int) (w : World) : Calls Tryd.prog 36 #[.int .i64 op, .int .i64 c] w fun e w' => e = .returned (.tuple #[.bool (holdsB op c), .bool (isCmp op)]) ∧ w' = w := by
  by_cases h9 : op = 9
  · subst h9
    go_enter Tryd.func36, Tryd.ntmps36
    go_wp2
    refine bodyPost_ret (results_tmp2 rfl _ _ _) rfl ?_
    exact ⟨rfl, rfl⟩
  · have k9 : (op == 9) = false := beq_eq_false_iff_ne.2 h9
    by_cases h10 : op = 10
    · subst h10
      go_enter Tryd.func36, Tryd.ntmps36
      go_wp2
      refine bodyPost_ret (results_tmp2 rfl _ _ _) rfl ?_
      exact ⟨rfl, rfl⟩
    · have k10 : (op == 10) = false := beq_eq_false_iff_ne.2 h10
      by_cases h11 : op = 11
      · subst h11
        go_enter Tryd.func36, Tryd.ntmps36
        go_wp2
        refine bodyPost_ret (results_tmp2 rfl _ _ _) rfl ?_
        exact ⟨rfl, rfl⟩
      · have k11 : (op == 11) = false := beq_eq_false_iff_ne.2 h11
        by_cases h12 : op = 12
        · subst h12
          go_enter Tryd.func36, Tryd.ntmps36
          go_wp2
          refine bodyPost_ret (results_tmp2 rfl _ _ _) rfl ?_
          exact ⟨rfl, rfl⟩
        · have k12 : (op == 12) = false := beq_eq_false_iff_ne.2 h12
          by_cases h13 : op = 13
          · subst h13
            go_enter Tryd.func36, Tryd.ntmps36
            go_wp2
            refine bodyPost_ret (results_tmp2 rfl _ _ _) rfl ?_
            exact ⟨rfl, rfl⟩
          · have k13 : (op == 13) = false := beq_eq_false_iff_ne.2 h13
            by_cases h14 : op = 14
            · subst h14
              go_enter Tryd.func36, Tryd.ntmps36
              go_wp2
              refine bodyPost_ret (results_tmp2 rfl _ _ _) rfl ?_
              exact ⟨rfl, rfl⟩
            · have k14 : (op == 14) = false := beq_eq_false_iff_ne.2 h14
              have HK : Hid (holdsB op c = false) := by unfold Hid holdsB; rw [if_neg h9, if_neg h10, if_neg h11, if_neg h12, if_neg h13, if_neg h14]
              have HC : Hid (isCmp op = false) := decide_eq_false (by omega)
              clear h9 h10 h11 h12 h13 h14
              go_enter Tryd.func36, Tryd.ntmps36
              go_wp2
              refine bodyPost_ret (results_tmp2 rfl _ _ _) rfl ?_
              rw [HK.out, HC.out]
              exact ⟨rfl, rfl⟩
end Go.Proofs.YtigafjdacllohaaDoor
