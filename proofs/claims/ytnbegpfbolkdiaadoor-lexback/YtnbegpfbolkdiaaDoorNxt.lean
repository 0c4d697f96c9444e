/- The next token. -/
import Derived.Test.YtnbegpfbolkdiaaDoorWrd
import Derived.Test.YtnbegpfbolkdiaaDoorStr
namespace Go.Proofs.YtnbegpfbolkdiaaDoor
set_option maxRecDepth 100000
open Go.RowKit
set_option linter.unusedVariables false
set_option linter.unusedSimpArgs false

theorem results_rec {fn : Func} {p u v : Tmp} {ty : TypeId} (h : fn.results = #[.cell p ty, .tmp u, .tmp v]) (tmps : Array Value) (w : World) (g : Nat) (t : TypeId) (cs : Array Value) (fr : Nat × Nat) (d : TypeDesc)
    (hp : tmps.getD p undef = .pointer (some ⟨g, 0, none⟩)) (hg : w.heap[g]? = some (.cells cs t fr))
    (hu : Tryd.prog.underlying ty = some d) (hd : d.isRow = true) (hi : (Tryd.prog.info? ty).map (·.size) = some cs.size) :
    (results fn tmps).run Tryd.prog w = .ok (.tuple #[.agg cs, tmps.getD u undef, tmps.getD v undef]) w := by
  have hp' : tmps[p]?.getD undef = .pointer (some ⟨g, 0, none⟩) := by simpa using hp
  have hl := run_loadVar_mid (P := Tryd.prog) w g 0 ty cs.toList d (fun j v hv => by rw [Nat.zero_add, cell_row hg]; simpa using hv) hu hd (by rw [hi, Array.length_toList])
  simp [results, h, hp', asAddr, hl]
theorem Tryd.results16 : Tryd.f16.results = #[.cell 4 29, .tmp 5, .tmp 6] := by kernel_rfl
theorem Tryd.size29 : (Tryd.prog.info? 29).map (·.size) = some 4 := by kernel_rfl
theorem set5 {w : World} {b : Nat} {a0 a1 a2 a3 : Value} (h : w.heap[b]? = some (.cells #[a0, a1, a2, a3] 29 (0, 0))) (k : Nat) (u v0 v1 v2 v3 : Value) :
    (((((w.setCell ⟨b, k, none⟩ u).setCell ⟨b, 0, none⟩ v0).setCell ⟨b, 1, none⟩ v1).setCell ⟨b, 2, none⟩ v2).setCell ⟨b, 3, none⟩ v3).heap[b]? = some (.cells #[v0, v1, v2, v3] 29 (0, 0)) := by
  rw [heap_set_same _ (heap_set_same _ (heap_set_same _ (heap_set_same _ (heap_set_same _ h))))]
  match k with
  | 0 => rfl
  | 1 => rfl
  | 2 => rfl
  | 3 => rfl
  | k + 4 => simp
theorem below5 {w0 w : World} {b : Nat} (h : Below b w0 w) (k : Nat) (u v0 v1 v2 v3 : Value) :
    Below b w0 (((((w.setCell ⟨b, k, none⟩ u).setCell ⟨b, 0, none⟩ v0).setCell ⟨b, 1, none⟩ v1).setCell ⟨b, 2, none⟩ v2).setCell ⟨b, 3, none⟩ v3) :=
  ((((h.setCell (Nat.le_refl _) _).setCell (Nat.le_refl _) _).setCell (Nat.le_refl _) _).setCell (Nat.le_refl _) _).setCell (Nat.le_refl _) _
set_option maxHeartbeats 2000000 in
theorem next_end (s : ByteArray) (i p e : Nat) (w : World)
    (HSt : Hid (∀ w, Calls Tryd.prog 24 #[.string s, .int .i64 (i : Int)] w fun e w' => e = .returned (.int .i64 (p : Int)) ∧ w' = w))
    (HStr : Hid (∀ w, Calls Tryd.prog 25 #[.string s, .int .i64 (p : Int)] w fun r w' => r = .returned (.tuple #[.int .i64 5, .int .i64 (e : Int)]) ∧ w' = w)) :
    Calls Tryd.prog 16 #[.string s, .int .i64 (i : Int)] w fun o w' => o = .returned (.tuple #[.agg #[.int .i64 5, .string ⟨#[]⟩, .int .i64 0, .int .i64 (p : Int)], .int .i64 (e : Int), .bool true]) ∧ Below w.heap.size w w' := by
  go_enter Tryd.func16, Tryd.ntmps16
  go_wp2_with (first | (go_at_call 24; refine (HSt.out _).mono ?_; rintro e w' ⟨rfl, hw⟩; have hw := hw.symm; subst hw) | (go_at_call 25; refine (HStr.out _).mono ?_; rintro e w' ⟨rfl, hw⟩; have hw := hw.symm; subst hw))
  refine bodyPost_ret (v := .tuple #[.agg #[.int .i64 5, .string ⟨#[]⟩, .int .i64 0, .int .i64 (p : Int)], .int .i64 (e : Int), .bool true]) (results_rec Tryd.results16 _ _ w.heap.size 29 #[.int .i64 5, .string ⟨#[]⟩, .int .i64 0, .int .i64 (p : Int)] (0, 0) _ rfl (heap_alloc_new _ _) Tryd.underlying29 rfl Tryd.size29) rfl ?_
  exact ⟨rfl, (Below.refl _ _).alloc (Nat.le_refl _) _⟩
set_option maxHeartbeats 2000000 in
theorem next_wrong (s : ByteArray) (i p e : Nat) (w : World)
    (HSt : Hid (∀ w, Calls Tryd.prog 24 #[.string s, .int .i64 (i : Int)] w fun e w' => e = .returned (.int .i64 (p : Int)) ∧ w' = w))
    (HStr : Hid (∀ w, Calls Tryd.prog 25 #[.string s, .int .i64 (p : Int)] w fun r w' => r = .returned (.tuple #[.int .i64 0, .int .i64 (e : Int)]) ∧ w' = w)) :
    Calls Tryd.prog 16 #[.string s, .int .i64 (i : Int)] w fun o w' => o = .returned (.tuple #[.agg #[.int .i64 0, .string ⟨#[]⟩, .int .i64 0, .int .i64 (p : Int)], .int .i64 (e : Int), .bool false]) ∧ Below w.heap.size w w' := by
  go_enter Tryd.func16, Tryd.ntmps16
  go_wp2_with (first | (go_at_call 24; refine (HSt.out _).mono ?_; rintro e w' ⟨rfl, hw⟩; have hw := hw.symm; subst hw) | (go_at_call 25; refine (HStr.out _).mono ?_; rintro e w' ⟨rfl, hw⟩; have hw := hw.symm; subst hw))
  refine bodyPost_ret (v := .tuple #[.agg #[.int .i64 0, .string ⟨#[]⟩, .int .i64 0, .int .i64 (p : Int)], .int .i64 (e : Int), .bool false]) (results_rec Tryd.results16 _ _ w.heap.size 29 #[.int .i64 0, .string ⟨#[]⟩, .int .i64 0, .int .i64 (p : Int)] (0, 0) _ rfl (heap_alloc_new _ _) Tryd.underlying29 rfl Tryd.size29) rfl ?_
  exact ⟨rfl, (Below.refl _ _).alloc (Nat.le_refl _) _⟩
set_option maxHeartbeats 2000000 in
theorem next_word (s : ByteArray) (i p e : Nat) (r : ByteArray) (b : Bool) (w : World) (hs : s.size ≤ 1073741824) (h1 : p ≤ e) (h2 : e ≤ s.size)
    (HSt : Hid (∀ w, Calls Tryd.prog 24 #[.string s, .int .i64 (i : Int)] w fun e w' => e = .returned (.int .i64 (p : Int)) ∧ w' = w))
    (HStr : Hid (∀ w, Calls Tryd.prog 25 #[.string s, .int .i64 (p : Int)] w fun r w' => r = .returned (.tuple #[.int .i64 1, .int .i64 (e : Int)]) ∧ w' = w))
    (HW : Hid (∀ W, Below w.heap.size w W → Calls Tryd.prog 26 #[.string (s.extract p e)] W fun o W' => o = .returned (.tuple #[.string r, .bool b]) ∧ Below W.heap.size W W')) :
    Calls Tryd.prog 16 #[.string s, .int .i64 (i : Int)] w fun o w' => o = .returned (.tuple #[.agg #[.int .i64 1, .string r, .int .i64 0, .int .i64 (p : Int)], .int .i64 (e : Int), .bool b]) ∧ Below w.heap.size w w' := by
  go_enter Tryd.func16, Tryd.ntmps16
  go_wp2_with (first | (go_at_call 24; refine (HSt.out _).mono ?_; rintro e w' ⟨rfl, hw⟩; have hw := hw.symm; subst hw) | (go_at_call 25; refine (HStr.out _).mono ?_; rintro e w' ⟨rfl, hw⟩; have hw := hw.symm; subst hw))
  refine (HW.out _ ((Below.refl _ _).alloc (Nat.le_refl _) _)).mono ?_
  rintro e' W2 ⟨rfl, hB2⟩
  have hQ2 : W2.heap[w.heap.size]? = some (.cells #[.int .i64 1, .string ⟨#[]⟩, .int .i64 0, .int .i64 (p : Int)] 29 (0, 0)) := (hB2.block _ (by simp)).trans (heap_alloc_new _ _)
  have HB2 : Hid (Below w.heap.size w W2) := ((Below.refl _ _).alloc (Nat.le_refl _) _).trans (hB2.mono (by simp))
  have c0 := cell_row (o := 0) hQ2
  have c1 := cell_row (o := 1) hQ2
  have c2 := cell_row (o := 2) hQ2
  have c3 := cell_row (o := 3) hQ2
  have f0 : ∀ k, W2.frozen? ⟨w.heap.size, k, none⟩ = false := fun k => frozen_row hQ2
  simp only [List.getElem?_toArray, List.getElem?_cons_zero, List.getElem?_cons_succ] at c0 c1 c2 c3
  have HQ2 := hide hQ2
  clear hB2 hQ2
  obtain ⟨q, hq⟩ : ∃ q, w.heap.size = q := ⟨_, rfl⟩
  rw [hq] at c0 c1 c2 c3 f0 HQ2 ⊢
  have HBE := hide hq
  clear hq
  go_wp2
  refine bodyPost_ret (v := .tuple #[.agg #[.int .i64 1, .string r, .int .i64 0, .int .i64 (p : Int)], .int .i64 (e : Int), .bool b]) (results_rec Tryd.results16 _ _ q 29 #[.int .i64 1, .string r, .int .i64 0, .int .i64 (p : Int)] (0, 0) _ rfl (set5 HQ2.out _ _ _ _ _ _) Tryd.underlying29 rfl Tryd.size29) rfl ?_
  refine ⟨rfl, ?_⟩
  have hq := HBE.out
  subst hq
  exact below5 HB2.out _ _ _ _ _ _
set_option maxHeartbeats 2000000 in
theorem next_number (s : ByteArray) (i p e : Nat) (r : Int) (b : Bool) (w : World) (hs : s.size ≤ 1073741824) (h1 : p ≤ e) (h2 : e ≤ s.size)
    (HSt : Hid (∀ w, Calls Tryd.prog 24 #[.string s, .int .i64 (i : Int)] w fun e w' => e = .returned (.int .i64 (p : Int)) ∧ w' = w))
    (HStr : Hid (∀ w, Calls Tryd.prog 25 #[.string s, .int .i64 (p : Int)] w fun r w' => r = .returned (.tuple #[.int .i64 2, .int .i64 (e : Int)]) ∧ w' = w))
    (HW : Hid (∀ W, Below w.heap.size w W → Calls Tryd.prog 27 #[.string (s.extract p e)] W fun o W' => o = .returned (.tuple #[.int .i64 r, .bool b]) ∧ Below W.heap.size W W')) :
    Calls Tryd.prog 16 #[.string s, .int .i64 (i : Int)] w fun o w' => o = .returned (.tuple #[.agg #[.int .i64 2, .string ⟨#[]⟩, .int .i64 r, .int .i64 (p : Int)], .int .i64 (e : Int), .bool b]) ∧ Below w.heap.size w w' := by
  go_enter Tryd.func16, Tryd.ntmps16
  go_wp2_with (first | (go_at_call 24; refine (HSt.out _).mono ?_; rintro e w' ⟨rfl, hw⟩; have hw := hw.symm; subst hw) | (go_at_call 25; refine (HStr.out _).mono ?_; rintro e w' ⟨rfl, hw⟩; have hw := hw.symm; subst hw))
  refine (HW.out _ ((Below.refl _ _).alloc (Nat.le_refl _) _)).mono ?_
  rintro e' W2 ⟨rfl, hB2⟩
  have hQ2 : W2.heap[w.heap.size]? = some (.cells #[.int .i64 2, .string ⟨#[]⟩, .int .i64 0, .int .i64 (p : Int)] 29 (0, 0)) := (hB2.block _ (by simp)).trans (heap_alloc_new _ _)
  have HB2 : Hid (Below w.heap.size w W2) := ((Below.refl _ _).alloc (Nat.le_refl _) _).trans (hB2.mono (by simp))
  have c0 := cell_row (o := 0) hQ2
  have c1 := cell_row (o := 1) hQ2
  have c2 := cell_row (o := 2) hQ2
  have c3 := cell_row (o := 3) hQ2
  have f0 : ∀ k, W2.frozen? ⟨w.heap.size, k, none⟩ = false := fun k => frozen_row hQ2
  simp only [List.getElem?_toArray, List.getElem?_cons_zero, List.getElem?_cons_succ] at c0 c1 c2 c3
  have HQ2 := hide hQ2
  clear hB2 hQ2
  obtain ⟨q, hq⟩ : ∃ q, w.heap.size = q := ⟨_, rfl⟩
  rw [hq] at c0 c1 c2 c3 f0 HQ2 ⊢
  have HBE := hide hq
  clear hq
  go_wp2
  refine bodyPost_ret (v := .tuple #[.agg #[.int .i64 2, .string ⟨#[]⟩, .int .i64 r, .int .i64 (p : Int)], .int .i64 (e : Int), .bool b]) (results_rec Tryd.results16 _ _ q 29 #[.int .i64 2, .string ⟨#[]⟩, .int .i64 r, .int .i64 (p : Int)] (0, 0) _ rfl (set5 HQ2.out _ _ _ _ _ _) Tryd.underlying29 rfl Tryd.size29) rfl ?_
  refine ⟨rfl, ?_⟩
  have hq := HBE.out
  subst hq
  exact below5 HB2.out _ _ _ _ _ _
set_option maxHeartbeats 2000000 in
theorem next_text (s : ByteArray) (i p e : Nat) (r : ByteArray) (b : Bool) (w : World) (hs : s.size ≤ 1073741824) (h1 : p ≤ e) (h2 : e ≤ s.size)
    (HSt : Hid (∀ w, Calls Tryd.prog 24 #[.string s, .int .i64 (i : Int)] w fun e w' => e = .returned (.int .i64 (p : Int)) ∧ w' = w))
    (HStr : Hid (∀ w, Calls Tryd.prog 25 #[.string s, .int .i64 (p : Int)] w fun r w' => r = .returned (.tuple #[.int .i64 3, .int .i64 (e : Int)]) ∧ w' = w))
    (HW : Hid (∀ W, Below w.heap.size w W → Calls Tryd.prog 28 #[.string (s.extract p e)] W fun o W' => o = .returned (.string r) ∧ Below W.heap.size W W')) :
    Calls Tryd.prog 16 #[.string s, .int .i64 (i : Int)] w fun o w' => o = .returned (.tuple #[.agg #[.int .i64 3, .string r, .int .i64 0, .int .i64 (p : Int)], .int .i64 (e : Int), .bool true]) ∧ Below w.heap.size w w' := by
  go_enter Tryd.func16, Tryd.ntmps16
  go_wp2_with (first | (go_at_call 24; refine (HSt.out _).mono ?_; rintro e w' ⟨rfl, hw⟩; have hw := hw.symm; subst hw) | (go_at_call 25; refine (HStr.out _).mono ?_; rintro e w' ⟨rfl, hw⟩; have hw := hw.symm; subst hw))
  refine (HW.out _ ((Below.refl _ _).alloc (Nat.le_refl _) _)).mono ?_
  rintro e' W2 ⟨rfl, hB2⟩
  have hQ2 : W2.heap[w.heap.size]? = some (.cells #[.int .i64 3, .string ⟨#[]⟩, .int .i64 0, .int .i64 (p : Int)] 29 (0, 0)) := (hB2.block _ (by simp)).trans (heap_alloc_new _ _)
  have HB2 : Hid (Below w.heap.size w W2) := ((Below.refl _ _).alloc (Nat.le_refl _) _).trans (hB2.mono (by simp))
  have c0 := cell_row (o := 0) hQ2
  have c1 := cell_row (o := 1) hQ2
  have c2 := cell_row (o := 2) hQ2
  have c3 := cell_row (o := 3) hQ2
  have f0 : ∀ k, W2.frozen? ⟨w.heap.size, k, none⟩ = false := fun k => frozen_row hQ2
  simp only [List.getElem?_toArray, List.getElem?_cons_zero, List.getElem?_cons_succ] at c0 c1 c2 c3
  have HQ2 := hide hQ2
  clear hB2 hQ2
  obtain ⟨q, hq⟩ : ∃ q, w.heap.size = q := ⟨_, rfl⟩
  rw [hq] at c0 c1 c2 c3 f0 HQ2 ⊢
  have HBE := hide hq
  clear hq
  go_wp2
  refine bodyPost_ret (v := .tuple #[.agg #[.int .i64 3, .string r, .int .i64 0, .int .i64 (p : Int)], .int .i64 (e : Int), .bool true]) (results_rec Tryd.results16 _ _ q 29 #[.int .i64 3, .string r, .int .i64 0, .int .i64 (p : Int)] (0, 0) _ rfl (set5 HQ2.out _ _ _ _ _ _) Tryd.underlying29 rfl Tryd.size29) rfl ?_
  refine ⟨rfl, ?_⟩
  have hq := HBE.out
  subst hq
  exact below5 HB2.out _ _ _ _ _ _
set_option maxHeartbeats 2000000 in
theorem next_sign (s : ByteArray) (i p e : Nat) (r : ByteArray) (b : Bool) (w : World) (hs : s.size ≤ 1073741824) (h1 : p ≤ e) (h2 : e ≤ s.size)
    (HSt : Hid (∀ w, Calls Tryd.prog 24 #[.string s, .int .i64 (i : Int)] w fun e w' => e = .returned (.int .i64 (p : Int)) ∧ w' = w))
    (HStr : Hid (∀ w, Calls Tryd.prog 25 #[.string s, .int .i64 (p : Int)] w fun r w' => r = .returned (.tuple #[.int .i64 4, .int .i64 (e : Int)]) ∧ w' = w))
    (HW : Hid (∀ W, Below w.heap.size w W → Calls Tryd.prog 29 #[.string (s.extract p e)] W fun o W' => o = .returned (.string r) ∧ Below W.heap.size W W')) :
    Calls Tryd.prog 16 #[.string s, .int .i64 (i : Int)] w fun o w' => o = .returned (.tuple #[.agg #[.int .i64 4, .string r, .int .i64 0, .int .i64 (p : Int)], .int .i64 (e : Int), .bool true]) ∧ Below w.heap.size w w' := by
  go_enter Tryd.func16, Tryd.ntmps16
  go_wp2_with (first | (go_at_call 24; refine (HSt.out _).mono ?_; rintro e w' ⟨rfl, hw⟩; have hw := hw.symm; subst hw) | (go_at_call 25; refine (HStr.out _).mono ?_; rintro e w' ⟨rfl, hw⟩; have hw := hw.symm; subst hw))
  refine (HW.out _ ((Below.refl _ _).alloc (Nat.le_refl _) _)).mono ?_
  rintro e' W2 ⟨rfl, hB2⟩
  have hQ2 : W2.heap[w.heap.size]? = some (.cells #[.int .i64 4, .string ⟨#[]⟩, .int .i64 0, .int .i64 (p : Int)] 29 (0, 0)) := (hB2.block _ (by simp)).trans (heap_alloc_new _ _)
  have HB2 : Hid (Below w.heap.size w W2) := ((Below.refl _ _).alloc (Nat.le_refl _) _).trans (hB2.mono (by simp))
  have c0 := cell_row (o := 0) hQ2
  have c1 := cell_row (o := 1) hQ2
  have c2 := cell_row (o := 2) hQ2
  have c3 := cell_row (o := 3) hQ2
  have f0 : ∀ k, W2.frozen? ⟨w.heap.size, k, none⟩ = false := fun k => frozen_row hQ2
  simp only [List.getElem?_toArray, List.getElem?_cons_zero, List.getElem?_cons_succ] at c0 c1 c2 c3
  have HQ2 := hide hQ2
  clear hB2 hQ2
  obtain ⟨q, hq⟩ : ∃ q, w.heap.size = q := ⟨_, rfl⟩
  rw [hq] at c0 c1 c2 c3 f0 HQ2 ⊢
  have HBE := hide hq
  clear hq
  go_wp2
  refine bodyPost_ret (v := .tuple #[.agg #[.int .i64 4, .string r, .int .i64 0, .int .i64 (p : Int)], .int .i64 (e : Int), .bool true]) (results_rec Tryd.results16 _ _ q 29 #[.int .i64 4, .string r, .int .i64 0, .int .i64 (p : Int)] (0, 0) _ rfl (set5 HQ2.out _ _ _ _ _ _) Tryd.underlying29 rfl Tryd.size29) rfl ?_
  refine ⟨rfl, ?_⟩
  have hq := HBE.out
  subst hq
  exact below5 HB2.out _ _ _ _ _ _
/-- What next tells. -/
def tokV (t : Tk) : Value := .agg #[.int .i64 (t.k : Int), .string (strOf t.t), .int .i64 (t.n : Int), .int .i64 (t.p : Int)]
def NextE (l : List UInt8) (i : Nat) (o : Ending) : Prop :=
  match tokAt l (skipTo l false i) with
  | some (t, e) => o = .returned (.tuple #[tokV t, .int .i64 (e : Int), .bool true])
  | none => ∃ (k : Int) (x : ByteArray) (n e : Int), o = .returned (.tuple #[.agg #[.int .i64 k, .string x, .int .i64 n, .int .i64 ((skipTo l false i : Nat) : Int)], .int .i64 e, .bool false])
theorem strOf_toList (s : ByteArray) : strOf s.data.toList = s := rfl
theorem run_all (p : Nat → Bool) : ∀ (l : List UInt8) (c : UInt8), c ∈ l.take (runN p l) → p (kdB c) = true
  | [], c, h => by simp at h
  | d :: r, c, h => by
    simp only [runN] at h
    split at h
    · rename_i hd
      rw [List.take_succ_cons] at h
      rcases List.mem_cons.1 h with rfl | h
      · exact hd
      · exact run_all p r c h
    · simp at h
theorem seg_run {p : Nat → Bool} {l : List UInt8} {i : Nat} (hi : i < l.length) (h : p (kdAt l i) = true) : ∀ c ∈ seg l i (runTo p l (i + 1)), p (kdB c) = true := by
  have e : runTo p l (i + 1) = runTo p l i := by
    rw [← runTo_in h (by intro e; rw [kdAt_in hi] at e; exact kdB_ne1 _ e)]
  intro c hc
  rw [e] at hc
  unfold seg runTo at hc
  rw [Nat.add_sub_cancel_left] at hc
  exact run_all p _ c hc
theorem word_ascii : ∀ c : UInt8, wd (kdB c) = true → c.toNat < 128 := by
  have h : ∀ i : Fin 256, wd (kdB (UInt8.ofNat i.val)) = true → (UInt8.ofNat i.val).toNat < 128 := by decide +kernel
  intro c
  have := h ⟨c.toNat, c.toNat_lt⟩
  simpa using this
theorem digit_is : ∀ c : UInt8, dg (kdB c) = true → isD c = true := by
  have h : ∀ i : Fin 256, dg (kdB (UInt8.ofNat i.val)) = true → isD (UInt8.ofNat i.val) = true := by decide +kernel
  intro c
  have := h ⟨c.toNat, c.toNat_lt⟩
  simpa using this
theorem seg_txt (l : List UInt8) (p e : Nat) (h : p + 1 ≤ e) : seg (seg l p e) 1 (e - p - 1) = seg l (p + 1) (e - 1) := by
  unfold seg
  rw [List.drop_take, List.drop_drop, List.take_take]
  congr 1
  omega
set_option maxHeartbeats 1000000 in
theorem next_any (s : ByteArray) (i : Nat) (w : World) (hi : i ≤ s.size) (hs : s.size ≤ 1073741824) (hr : Ready w) :
    Calls Tryd.prog 16 #[.string s, .int .i64 (i : Int)] w fun o w' => NextE s.data.toList i o ∧ Below w.heap.size w w' := by
  have hlen : s.data.toList.length = s.size := (Lib.size_eq s).symm
  obtain ⟨p, hp⟩ : ∃ p, skipTo s.data.toList false i = p := ⟨_, rfl⟩
  obtain ⟨⟨k, e⟩, hk⟩ : ∃ x, strF s.data.toList p = x := ⟨_, rfl⟩
  have hple : p ≤ s.data.toList.length := by rw [← hp]; exact skipTo_le (by omega)
  have HSt : Hid (∀ w, Calls Tryd.prog 24 #[.string s, .int .i64 (i : Int)] w fun e w' => e = .returned (.int .i64 (p : Int)) ∧ w' = w) := fun w => by have := start_any s i w hi (by omega); rw [hp] at this; exact this
  have HStr : Hid (∀ w, Calls Tryd.prog 25 #[.string s, .int .i64 (p : Int)] w fun r w' => r = .returned (.tuple #[.int .i64 (k : Int), .int .i64 (e : Int)]) ∧ w' = w) := fun w => stretch_any s p k e w (by omega) (by omega) hk
  unfold NextE
  rw [hp]
  by_cases hk0 : k = 0
  · subst hk0
    have hn : tokAt s.data.toList p = none := by unfold tokAt; rw [hk]; rfl
    rw [hn]
    refine (next_wrong s i p e w HSt HStr).mono ?_
    rintro o w' ⟨rfl, hb⟩
    exact ⟨⟨_, _, _, _, rfl⟩, hb⟩
  obtain ⟨h5, h6, h7, h8, h9⟩ := strF_in hple hk hk0
  have hsz : (s.extract p e).size = e - p := by rw [ByteArray.size_extract]; omega
  have hsg := ext_list s p e
  have hcase := hk
  match k, h5 with
  | 1, _ =>
    have h4 : kdAt s.data.toList p = 4 ∧ e = runTo wd s.data.toList (p + 1) := by
      unfold strF at hcase
      split at hcase
      · injection hcase with a b; exact ⟨by assumption, b.symm⟩
      · (repeat' split at hcase) <;> (injection hcase with a b; omega)
    have ha : ∀ (j : Nat) (b : UInt8), (s.extract p e).data.toList[j]? = some b → b.toNat < 128 := fun j b hb => by
      rw [hsg, h4.2] at hb
      exact word_ascii b (seg_run (by have := h8 (by omega); omega) (by simp [h4.1, wd]) b (List.mem_of_getElem? hb))
    by_cases h32 : e - p ≤ 32
    · have ht : tokAt s.data.toList p = some (⟨1, Lib.toLowerA (seg s.data.toList p e), 0, p⟩, e) := by
        unfold tokAt; rw [hk]; simp [h32]
      rw [ht]
      refine (next_word s i p e (strOf (Lib.toLowerA (seg s.data.toList p e))) true w hs h7 (by omega) HSt HStr (fun W _ => ?_)).mono ?_
      · have := word_any (s.extract p e) W (by omega) ha
        rw [if_pos (by omega), hsg] at this
        exact this
      · rintro o w' ⟨rfl, hb⟩
        exact ⟨rfl, hb⟩
    · have ht : tokAt s.data.toList p = none := by
        unfold tokAt; rw [hk]; simp [h32]
      rw [ht]
      refine (next_word s i p e ⟨#[]⟩ false w hs h7 (by omega) HSt HStr (fun W _ => ?_)).mono ?_
      · have := word_any (s.extract p e) W (by omega) ha
        rw [if_neg (by omega)] at this
        exact this
      · rintro o w' ⟨rfl, hb⟩
        exact ⟨⟨_, _, _, _, rfl⟩, hb⟩
  | 2, _ =>
    have h4 : kdAt s.data.toList p = 5 ∧ e = runTo dg s.data.toList (p + 1) := by
      unfold strF at hcase
      split at hcase
      · injection hcase with a b; omega
      · split at hcase
        · split at hcase
          · injection hcase with a b; omega
          · injection hcase with a b; exact ⟨by assumption, b.symm⟩
        · (repeat' split at hcase) <;> (injection hcase with a b; omega)
    have hd : ∀ c ∈ (s.extract p e).data.toList, isD c = true := fun c hc => by
      rw [hsg, h4.2] at hc
      exact digit_is c (seg_run (by have := h8 (by omega); omega) (by simp [h4.1, dg]) c hc)
    have hnum : ∀ W, Below w.heap.size w W → Calls Tryd.prog 27 #[.string (s.extract p e)] W fun o W' => o = .returned (numR (seg s.data.toList p e)) ∧ Below W.heap.size W W' := fun W hW => by
      have := number_any (s.extract p e) W (by omega) (by have := h8 (by omega); omega) hd (hr.below hW)
      rw [hsg] at this
      exact this
    have hl2 : (seg s.data.toList p e).length = e - p := seg_length h6
    by_cases hv : e - p ≤ 19 ∧ decV (seg s.data.toList p e) < 9223372036854775808
    · have ht : tokAt s.data.toList p = some (⟨2, [], decV (seg s.data.toList p e), p⟩, e) := by
        unfold tokAt; rw [hk]; simp [hv.1, hv.2]
      rw [ht]
      refine (next_number s i p e (decV (seg s.data.toList p e) : Int) true w hs h7 (by omega) HSt HStr (fun W hW => ?_)).mono ?_
      · have := hnum W hW
        unfold numR at this
        rw [hl2, if_pos hv] at this
        exact this
      · rintro o w' ⟨rfl, hb⟩
        exact ⟨rfl, hb⟩
    · have ht : tokAt s.data.toList p = none := by
        unfold tokAt; rw [hk]
        show (if (2 : Nat) = 1 then _ else if (2 : Nat) = 2 then _ else _) = none
        rw [if_neg (by omega), if_pos rfl, if_neg hv]
      rw [ht]
      refine (next_number s i p e 0 false w hs h7 (by omega) HSt HStr (fun W hW => ?_)).mono ?_
      · have := hnum W hW
        unfold numR at this
        rw [hl2, if_neg hv] at this
        exact this
      · rintro o w' ⟨rfl, hb⟩
        exact ⟨⟨_, _, _, _, rfl⟩, hb⟩
  | 3, _ =>
    have h4 : p + 2 ≤ e := by
      unfold strF at hcase
      split at hcase
      · injection hcase with a b; omega
      · split at hcase
        · split at hcase <;> (injection hcase with a b; omega)
        · split at hcase
          · split at hcase
            · injection hcase with a b; omega
            · rename_i h0
              injection hcase with a b
              unfold txtTo at h0 b
              split at b
              · rename_i hn; rw [hn] at h0; exact absurd rfl h0
              · rename_i q hq
                have := txt_pos _ q hq
                omega
          · (repeat' split at hcase) <;> (injection hcase with a b; omega)
    have ht : tokAt s.data.toList p = some (⟨3, unq (seg s.data.toList (p + 1) (e - 1)), 0, p⟩, e) := by
      unfold tokAt; rw [hk]; simp
    rw [ht]
    refine (next_text s i p e (strOf (unq (seg s.data.toList (p + 1) (e - 1)))) true w hs h7 (by omega) HSt HStr (fun W hW => ?_)).mono ?_
    · have := said_any (s.extract p e) W (by omega) (by omega) (hr.below hW)
      rw [hsg, hsz, seg_txt _ _ _ (by omega)] at this
      exact this
    · rintro o w' ⟨rfl, hb⟩
      exact ⟨rfl, hb⟩
  | 4, _ =>
    have ht : tokAt s.data.toList p = some (⟨4, seg s.data.toList p e, 0, p⟩, e) := by
      unfold tokAt; rw [hk]; simp
    rw [ht]
    refine (next_sign s i p e (s.extract p e) true w hs h7 (by omega) HSt HStr (fun W hW => clone_any _ W (by omega))).mono ?_
    rintro o w' ⟨rfl, hb⟩
    have : strOf (seg s.data.toList p e) = s.extract p e := by rw [← hsg]; rfl
    exact ⟨by show _ = Ending.returned (.tuple #[.agg #[.int .i64 ((4 : Nat) : Int), .string (strOf (seg s.data.toList p e)), .int .i64 ((0 : Nat) : Int), .int .i64 (p : Int)], .int .i64 (e : Int), .bool true]); rw [this]; rfl, hb⟩
  | 5, _ =>
    have ht : tokAt s.data.toList p = some (⟨5, [], 0, p⟩, e) := by
      unfold tokAt; rw [hk]; simp
    rw [ht]
    refine (next_end s i p e w HSt HStr).mono ?_
    rintro o w' ⟨rfl, hb⟩
    exact ⟨rfl, hb⟩
end Go.Proofs.YtnbegpfbolkdiaaDoor
