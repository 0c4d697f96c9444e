/- The closures of ValueLogic; the laws of the connectives. -/
import Derived.Test.YtigafjdacllohaaDoorAwk
namespace Go.Proofs.YtigafjdacllohaaDoor
open Go.RowKit
set_option linter.unusedVariables false
set_option linter.unusedSimpArgs false
set_option maxRecDepth 100000

set_option maxHeartbeats 4000000 in
theorem clAnd_any (A B : Vl) (w : World) : Calls Tryd.prog 33 #[valOf A, valOf B] w fun e w' => e = .returned (valOf (andP A B).1) ∧ Below w.heap.size w w' := by
  obtain ⟨W1, hW1⟩ : ∃ W1, ((w.alloc (.cells #[.int .i64 A.ty, .int .i64 A.n, .string (strOf A.t), .bool A.b] 23)).alloc (.cells #[.int .i64 B.ty, .int .i64 B.n, .string (strOf B.t), .bool B.b] 23)).alloc (.cells #[.int .i64 0, .int .i64 0, .string { data := #[] }, .bool false] 23) = W1 := ⟨_, rfl⟩
  have HB1 : Hid (Below w.heap.size w W1) := by rw [← hW1]; exact below3 _ _ _ _
  have HT1 : Hid (Two w.heap.size A B W1) := by rw [← hW1]; exact two_new w A B
  have HC : Hid (∀ W, Calls Tryd.prog 22 #[.agg #[.int .i64 A.ty, .int .i64 A.n, .string (strOf A.t), .bool A.b], .agg #[.int .i64 B.ty, .int .i64 B.n, .string (strOf B.t), .bool B.b]] W fun e w' => e = .returned (.tuple #[.agg #[.int .i64 (andP A B).1.ty, .int .i64 (andP A B).1.n, .string (strOf (andP A B).1.t), .bool (andP A B).1.b], .int .i64 (andP A B).2]) ∧ Below W.heap.size W w') := and_any A B
  generalize (andP A B).1 = V at *
  generalize (andP A B).2 = er at *
  unfold valOf
  go_enter Tryd.func33, Tryd.ntmps33
  go_upto_region 1 with fail
  try rw [hW1]
  clear hW1
  generalize hq : w.heap.size = q at HT1 ⊢
  have HQ := hide hq
  clear hq
  obtain ⟨a0, a1, a2, a3⟩ := HT1.out.a.cells
  obtain ⟨b0, b1, b2, b3⟩ := HT1.out.b.cells
  go_wp2_with (first
    | (go_at_call 22; refine (HC.out _).mono ?_; rintro e W2 ⟨rfl, hb2⟩; have HB2 := hide hb2; clear hb2; have HT2 := hide (HT1.out.belowW HB2.out); have HR2 : Hid (Box (W2.alloc (.cells #[.int .i64 V.ty, .int .i64 V.n, .string (strOf V.t), .bool V.b] 23)) (q + 2) Vl.zero) := HT2.out.r.belowW ((Below.refl _ _).alloc (Nat.le_refl _) _); have lr := lt_of_heap HT2.out.r)
    | (refine wpList_store_val rfl (.tmp 4) (.tmp 13) rfl rfl (q + 2) Vl.zero V rfl rfl HR2.out ?_))
  refine bodyPost_ret (v := .agg #[.int .i64 V.ty, .int .i64 V.n, .string (strOf V.t), .bool V.b]) (results_cell_row Tryd.results33 _ _ (q + 2) 23 _ (0, 0) _ rfl (Box.after HR2.out V) Tryd.underlying23 rfl Tryd.size23) rfl ?_
  exact ⟨rfl, below_setRow (allocW (thenW HB1.out HB2.out) _) (by rw [HQ.out]; omega) _⟩
set_option maxHeartbeats 4000000 in
theorem clOr_any (A B : Vl) (w : World) : Calls Tryd.prog 34 #[valOf A, valOf B] w fun e w' => e = .returned (valOf (orP A B).1) ∧ Below w.heap.size w w' := by
  obtain ⟨W1, hW1⟩ : ∃ W1, ((w.alloc (.cells #[.int .i64 A.ty, .int .i64 A.n, .string (strOf A.t), .bool A.b] 23)).alloc (.cells #[.int .i64 B.ty, .int .i64 B.n, .string (strOf B.t), .bool B.b] 23)).alloc (.cells #[.int .i64 0, .int .i64 0, .string { data := #[] }, .bool false] 23) = W1 := ⟨_, rfl⟩
  have HB1 : Hid (Below w.heap.size w W1) := by rw [← hW1]; exact below3 _ _ _ _
  have HT1 : Hid (Two w.heap.size A B W1) := by rw [← hW1]; exact two_new w A B
  have HC : Hid (∀ W, Calls Tryd.prog 24 #[.agg #[.int .i64 A.ty, .int .i64 A.n, .string (strOf A.t), .bool A.b], .agg #[.int .i64 B.ty, .int .i64 B.n, .string (strOf B.t), .bool B.b]] W fun e w' => e = .returned (.tuple #[.agg #[.int .i64 (orP A B).1.ty, .int .i64 (orP A B).1.n, .string (strOf (orP A B).1.t), .bool (orP A B).1.b], .int .i64 (orP A B).2]) ∧ Below W.heap.size W w') := or_any A B
  generalize (orP A B).1 = V at *
  generalize (orP A B).2 = er at *
  unfold valOf
  go_enter Tryd.func34, Tryd.ntmps34
  go_upto_region 1 with fail
  try rw [hW1]
  clear hW1
  generalize hq : w.heap.size = q at HT1 ⊢
  have HQ := hide hq
  clear hq
  obtain ⟨a0, a1, a2, a3⟩ := HT1.out.a.cells
  obtain ⟨b0, b1, b2, b3⟩ := HT1.out.b.cells
  go_wp2_with (first
    | (go_at_call 24; refine (HC.out _).mono ?_; rintro e W2 ⟨rfl, hb2⟩; have HB2 := hide hb2; clear hb2; have HT2 := hide (HT1.out.belowW HB2.out); have HR2 : Hid (Box (W2.alloc (.cells #[.int .i64 V.ty, .int .i64 V.n, .string (strOf V.t), .bool V.b] 23)) (q + 2) Vl.zero) := HT2.out.r.belowW ((Below.refl _ _).alloc (Nat.le_refl _) _); have lr := lt_of_heap HT2.out.r)
    | (refine wpList_store_val rfl (.tmp 4) (.tmp 13) rfl rfl (q + 2) Vl.zero V rfl rfl HR2.out ?_))
  refine bodyPost_ret (v := .agg #[.int .i64 V.ty, .int .i64 V.n, .string (strOf V.t), .bool V.b]) (results_cell_row Tryd.results34 _ _ (q + 2) 23 _ (0, 0) _ rfl (Box.after HR2.out V) Tryd.underlying23 rfl Tryd.size23) rfl ?_
  exact ⟨rfl, below_setRow (allocW (thenW HB1.out HB2.out) _) (by rw [HQ.out]; omega) _⟩
set_option maxHeartbeats 4000000 in
theorem clNot_any (A : Vl) (w : World) : Calls Tryd.prog 35 #[valOf A] w fun e w' => e = .returned (valOf (notP A).1) ∧ Below w.heap.size w w' := by
  obtain ⟨W1, hW1⟩ : ∃ W1, (w.alloc (.cells #[.int .i64 A.ty, .int .i64 A.n, .string (strOf A.t), .bool A.b] 23)).alloc (.cells #[.int .i64 0, .int .i64 0, .string { data := #[] }, .bool false] 23) = W1 := ⟨_, rfl⟩
  have HB1 : Hid (Below w.heap.size w W1) := by rw [← hW1]; exact below2 _ _ _
  have HT1 : Hid (One w.heap.size A W1) := by rw [← hW1]; exact one_new w A
  have HC : Hid (∀ W, Calls Tryd.prog 26 #[.agg #[.int .i64 A.ty, .int .i64 A.n, .string (strOf A.t), .bool A.b]] W fun e w' => e = .returned (.tuple #[.agg #[.int .i64 (notP A).1.ty, .int .i64 (notP A).1.n, .string (strOf (notP A).1.t), .bool (notP A).1.b], .int .i64 (notP A).2]) ∧ Below W.heap.size W w') := not_any A
  generalize (notP A).1 = V at *
  generalize (notP A).2 = er at *
  unfold valOf
  go_enter Tryd.func35, Tryd.ntmps35
  go_upto_region 1 with fail
  try rw [hW1]
  clear hW1
  generalize hq : w.heap.size = q at HT1 ⊢
  have HQ := hide hq
  clear hq
  obtain ⟨a0, a1, a2, a3⟩ := HT1.out.a.cells
  go_wp2_with (first
    | (go_at_call 26; refine (HC.out _).mono ?_; rintro e W2 ⟨rfl, hb2⟩; have HB2 := hide hb2; clear hb2; have HT2 := hide (HT1.out.belowW HB2.out); have HR2 : Hid (Box (W2.alloc (.cells #[.int .i64 V.ty, .int .i64 V.n, .string (strOf V.t), .bool V.b] 23)) (q + 1) Vl.zero) := HT2.out.r.belowW ((Below.refl _ _).alloc (Nat.le_refl _) _); have lr := lt_of_heap HT2.out.r)
    | (refine wpList_store_val rfl (.tmp 2) (.tmp 10) rfl rfl (q + 1) Vl.zero V rfl rfl HR2.out ?_))
  refine bodyPost_ret (v := .agg #[.int .i64 V.ty, .int .i64 V.n, .string (strOf V.t), .bool V.b]) (results_cell_row Tryd.results35 _ _ (q + 1) 23 _ (0, 0) _ rfl (Box.after HR2.out V) Tryd.underlying23 rfl Tryd.size23) rfl ?_
  exact ⟨rfl, below_setRow (allocW (thenW HB1.out HB2.out) _) (by rw [HQ.out]; omega) _⟩
/-! ### Three truths -/
def L3 : List Vl := [Vl.zero, bV false, bV true]
def tri (i : Nat) : Vl := L3.getD i Vl.zero
def aV (A B : Vl) : Vl := (andP A B).1
def oV (A B : Vl) : Vl := (orP A B).1
def nT (A : Vl) : Vl := (notP A).1
def logicB (i j k : Nat) : Bool :=
  let x := tri i; let y := tri j; let z := tri k
  let same := fun (a b : Vl) => a.ty == b.ty && a.n == b.n && a.t == b.t && a.b == b.b
  same (aV x y) (aV y x) && same (oV x y) (oV y x) && same (nT (aV x y)) (oV (nT x) (nT y)) && same (nT (nT x)) x && same (aV x (oV y z)) (oV (aV x y) (aV x z)) && same (aV x (aV y z)) (aV (aV x y) z) && same (aV x x) x
theorem logic_all : ((List.range 3).all fun i => (List.range 3).all fun j => (List.range 3).all fun k => logicB i j k) = true := by decide +kernel
theorem same_is {a b : Vl} (h : (a.ty == b.ty && a.n == b.n && a.t == b.t && a.b == b.b) = true) : a = b := by
  simp only [Bool.and_eq_true, beq_iff_eq] at h
  exact vl_ext h.1.1.1 h.1.1.2 h.1.2 h.2
theorem logic_is {i j k : Nat} (hi : i < 3) (hj : j < 3) (hk : k < 3) : aV (tri j) (tri i) = aV (tri i) (tri j) ∧ oV (tri j) (tri i) = oV (tri i) (tri j) ∧ oV (nT (tri i)) (nT (tri j)) = nT (aV (tri i) (tri j)) ∧ nT (nT (tri i)) = tri i ∧ oV (aV (tri i) (tri j)) (aV (tri i) (tri k)) = aV (tri i) (oV (tri j) (tri k)) ∧ aV (aV (tri i) (tri j)) (tri k) = aV (tri i) (aV (tri j) (tri k)) ∧ aV (tri i) (tri i) = tri i := by
  have h := List.all_eq_true.1 (List.all_eq_true.1 (List.all_eq_true.1 logic_all i (List.mem_range.2 hi)) j (List.mem_range.2 hj)) k (List.mem_range.2 hk)
  unfold logicB at h
  simp only [Bool.and_eq_true] at h
  obtain ⟨⟨⟨⟨⟨⟨h1, h2⟩, h3⟩, h4⟩, h5⟩, h6⟩, h7⟩ := h
  have k : ∀ {a b : Vl}, (((a.ty == b.ty) = true ∧ (a.n == b.n) = true) ∧ (a.t == b.t) = true) ∧ (a.b == b.b) = true → a = b := fun h => same_is (by simp only [Bool.and_eq_true]; exact h)
  exact ⟨(k h1).symm, (k h2).symm, (k h3).symm, k h4, (k h5).symm, (k h6).symm, k h7⟩
end Go.Proofs.YtigafjdacllohaaDoor
