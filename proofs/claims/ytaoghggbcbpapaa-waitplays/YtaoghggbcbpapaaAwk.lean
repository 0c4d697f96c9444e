/- The example of the document. -/
import Derived.Test.YtaoghggbcbpapaaOpn
namespace Go.Proofs.Ytaoghggbcbpapaa
open Go.RowKit
set_option linter.unusedVariables false
set_option linter.unusedSimpArgs false

def ex0 : List (Int × Int) := [(1, 2), (2, 1), (2, 3)]
theorem ex_from {a b : Int} (h : Stp ex0 a b) : a = 1 ∨ a = 2 := by
  simp [Stp, ex0] at h
  omega
theorem ex12 : Rch (Stp ex0) 1 2 := Rch.one (by simp [Stp, ex0])
theorem ex21 : Rch (Stp ex0) 2 1 := Rch.one (by simp [Stp, ex0])
theorem ex_both (x : Int) : Both ex0 1 x ↔ x = 1 ∨ x = 2 := by
  constructor
  · rintro ⟨_, h⟩
    obtain ⟨c, hc⟩ := h.first
    exact ex_from hc
  · rintro (rfl | rfl)
    · exact ⟨ex12.trans ex21, ex12.trans ex21⟩
    · exact ⟨ex12, ex21⟩
theorem ex_cyc {C : List Int} (h : CycIs ex0 1 C) : C = [1, 2] := by
  refine rising_ext h.rise (by simp) fun x => ?_
  rw [h.just, ex_both]
  simp
theorem ex_vic1 {v : Int} {ok : Bool} (h : VicIs ex0 1 v ok) : v = 2 ∧ ok = true := by
  rcases h with ⟨_, _, h⟩ | ⟨h1, h2, h3⟩
  · exact absurd (ex12.trans ex21) h
  · have h4 := h3 2 ((ex_both 2).2 (.inr rfl))
    have h5 := (ex_both v).1 h2
    exact ⟨by omega, h1⟩
theorem ex_vic3 {v : Int} {ok : Bool} (h : VicIs ex0 3 v ok) : ok = false := by
  rcases h with ⟨h, _⟩ | ⟨_, h2, _⟩
  · exact h
  · obtain ⟨c, hc⟩ := h2.1.first
    have := ex_from hc
    omega
theorem ex_top : Top ex0 2 := by
  have h1 : StpTo ex0 2 2 1 := ⟨by simp [ex0], by omega⟩
  have h2 : StpTo ex0 2 1 2 := ⟨by simp [ex0], by omega⟩
  exact Rch.head h1 (Rch.one h2)
theorem ex_free {F : List (Int × Int)} (h : FreeIs ex0 F) : F = [] := by
  refine List.eq_nil_iff_forall_not_mem.2 fun ⟨a, b⟩ hab => ?_
  obtain ⟨h1, h2, h3⟩ := h.mem.1 hab
  have : a = 2 ∨ b = 2 := by
    simp [ex0] at h1
    omega
  rcases this with rfl | rfl
  · exact h2 ex_top
  · exact h3 ex_top
theorem run_ex (w : World) : (Instr.buildSlice 22 3 #[(0, .agg #[.int .i64 1, .int .i64 2]), (1, .agg #[.int .i64 2, .int .i64 1]), (2, .agg #[.int .i64 2, .int .i64 3])]).run Try.prog w = .ok (.slice (some ⟨w.heap.size, 0, none⟩) 3 3) (w.alloc (.cells #[.int .i64 1, .int .i64 2, .int .i64 2, .int .i64 1, .int .i64 2, .int .i64 3] 24)) := by kernel_rfl
theorem own_new2 (w : World) (base : Nat) (hb : base ≤ w.heap.size) (t : TypeId) (E : List (Int × Int)) (n : Nat) (hn : E.length = n) (hl : n ≤ 1000 := by omega) : (w.alloc (.cells (ecells E).toArray t)).ownsRow base t 2 (.slice (some ⟨w.heap.size, 0, none⟩) n n) E.length (ecells E) := by
  have := ecells_len E
  subst hn
  exact ⟨this, .inr ⟨w.heap.size, E.length, (ecells E).toArray, rfl, hb, heap_alloc_new _ _, Nat.le_refl _, by simp only [maxLen]; omega, by simp [this], by rw [← this]; simp⟩⟩
theorem ex_at (w : World) : EdgesAt (w.alloc (.cells #[.int .i64 1, .int .i64 2, .int .i64 2, .int .i64 1, .int .i64 2, .int .i64 3] 24)) (some ⟨w.heap.size, 0, none⟩) ex0 := by
  have h := own_new2 w w.heap.size (Nat.le_refl _) 24 ex0 3 rfl
  obtain ⟨a, c, e, h⟩ := EdgesAt.of_owns h (by simp [ex0])
  injection e with e1 e2 e3
  rw [e1]
  exact h
set_option maxHeartbeats 1000000 in
set_option maxRecDepth 100000 in
theorem awake_any (w : World) : Calls Try.prog 7 #[] w fun e w' => e = .returned (.bool true) ∧ Below w.heap.size w w' := by
  have hb1 := run_build24
  have hb2 := run_ex w
  have hB0 : Below w.heap.size w (w.alloc (.cells #[.int .i64 1, .int .i64 2, .int .i64 2, .int .i64 1, .int .i64 2, .int .i64 3] 24)) := (Below.refl _ w).alloc (Nat.le_refl _) _
  have hE0 := ex_at w
  have HB0 := hide hB0
  have HCY : Hid (∀ W, Below (w.alloc (.cells #[.int .i64 1, .int .i64 2, .int .i64 2, .int .i64 1, .int .i64 2, .int .i64 3] 24)).heap.size (w.alloc (.cells #[.int .i64 1, .int .i64 2, .int .i64 2, .int .i64 1, .int .i64 2, .int .i64 3] 24)) W → Calls Try.prog 10 #[.slice (some ⟨w.heap.size, 0, none⟩) 3 3, .int .i64 1] W fun e w' => ∃ v, e = .returned v ∧ w'.ownsRow W.heap.size 3 1 v 2 [.int .i64 1, .int .i64 2] ∧ Below W.heap.size W w') := fun W hb => by
    have h := cycle_any (c := 3) (hE0.belowW hb) 1
    rw [show ex0.length = 3 from rfl] at h
    refine h.mono ?_
    rintro e w' ⟨v, C, rfl, h1, h2, _, h3⟩
    have := ex_cyc h2
    subst this
    exact ⟨v, rfl, h1, h3⟩
  have HV1 : Hid (∀ W, Below (w.alloc (.cells #[.int .i64 1, .int .i64 2, .int .i64 2, .int .i64 1, .int .i64 2, .int .i64 3] 24)).heap.size (w.alloc (.cells #[.int .i64 1, .int .i64 2, .int .i64 2, .int .i64 1, .int .i64 2, .int .i64 3] 24)) W → Calls Try.prog 8 #[.slice (some ⟨w.heap.size, 0, none⟩) 3 3, .int .i64 1] W fun e w' => e = .returned (.tuple #[.int .i64 2, .bool true]) ∧ Below W.heap.size W w') := fun W hb => by
    have h := victim_any (c := 3) (hE0.belowW hb) 1
    rw [show ex0.length = 3 from rfl] at h
    refine h.mono ?_
    rintro e w' ⟨v, ok, rfl, h1, h3⟩
    obtain ⟨rfl, rfl⟩ := ex_vic1 h1
    exact ⟨rfl, h3⟩
  have HV3 : Hid (∀ W, Below (w.alloc (.cells #[.int .i64 1, .int .i64 2, .int .i64 2, .int .i64 1, .int .i64 2, .int .i64 3] 24)).heap.size (w.alloc (.cells #[.int .i64 1, .int .i64 2, .int .i64 2, .int .i64 1, .int .i64 2, .int .i64 3] 24)) W → Calls Try.prog 8 #[.slice (some ⟨w.heap.size, 0, none⟩) 3 3, .int .i64 3] W fun e w' => ∃ v, e = .returned (.tuple #[.int .i64 v, .bool false]) ∧ Below W.heap.size W w') := fun W hb => by
    have h := victim_any (c := 3) (hE0.belowW hb) 3
    rw [show ex0.length = 3 from rfl] at h
    refine h.mono ?_
    rintro e w' ⟨v, ok, rfl, h1, h3⟩
    have := ex_vic3 h1
    subst this
    exact ⟨v, rfl, h3⟩
  have HFR : Hid (∀ W, Below (w.alloc (.cells #[.int .i64 1, .int .i64 2, .int .i64 2, .int .i64 1, .int .i64 2, .int .i64 3] 24)).heap.size (w.alloc (.cells #[.int .i64 1, .int .i64 2, .int .i64 2, .int .i64 1, .int .i64 2, .int .i64 3] 24)) W → Calls Try.prog 9 #[.slice (some ⟨w.heap.size, 0, none⟩) 3 3] W fun e w' => ∃ a c, e = .returned (.slice a 0 c) ∧ Below W.heap.size W w') := fun W hb => by
    have h := free_any (c := 3) (hE0.belowW hb)
    rw [show ex0.length = 3 from rfl] at h
    refine h.mono ?_
    rintro e w' ⟨v, F, rfl, h1, h2, h3⟩
    have := ex_free h2
    subst this
    obtain ⟨a, c, rfl⟩ := owns_len h1
    exact ⟨a, c, rfl, h3⟩
  clear hB0 hE0
  go_enter Try.func7, Try.ntmps7
  go_upto_region 3 with (go_at_call 10; refine (HCY.out _ (Below.refl _ _)).mono ?_; rintro e w1 ⟨v1, rfl, hr1, hb1'⟩)
  have HB1 := hide hb1'
  obtain ⟨g1, c1, cur, rfl, hg1⟩ : ∃ g c cur, v1 = .slice (some ⟨g, 0, none⟩) 2 c ∧ w1.heap[g]? = some (.cells cur 3 (0, 0)) ∧ cur.toList.take 2 = [.int .i64 1, .int .i64 2] := by
    rcases own_of hr1 with ⟨_, h, _⟩ | ⟨g, cap, cur, rfl, h1, h2, h3, h4, h5, h6⟩
    · cases h
    · exact ⟨g, cap, cur, rfl, h2, h6⟩
  have hcc : w1.cell? ⟨g1, 0, none⟩ = some (.int .i64 1) := by
    rw [cell_row hg1.1]
    have := congrArg (fun l => l[0]?) hg1.2
    simpa using this
  have HG1 : Hid (g1 < w1.heap.size) := lt_of_heap hg1.1
  have HCC := hide hcc
  clear hr1 hb1' hg1 hcc HCY
  go_upto_region 4 with (go_at_call 8; refine (HV1.out _ HB1.out).mono ?_; rintro e w2 ⟨rfl, hb2'⟩)
  have HB2 : Hid (Below (w.alloc (.cells #[.int .i64 1, .int .i64 2, .int .i64 2, .int .i64 1, .int .i64 2, .int .i64 3] 24)).heap.size (w.alloc (.cells #[.int .i64 1, .int .i64 2, .int .i64 2, .int .i64 1, .int .i64 2, .int .i64 3] 24)) w2) := bt HB1.out (Nat.le_refl _) hb2'
  have HD2 := hide hb2'
  clear hb2' HV1
  go_upto_region 5 with (go_at_call 8; refine (HV3.out _ HB2.out).mono ?_; rintro e w3 ⟨v3, rfl, hb3'⟩)
  have HB3 : Hid (Below (w.alloc (.cells #[.int .i64 1, .int .i64 2, .int .i64 2, .int .i64 1, .int .i64 2, .int .i64 3] 24)).heap.size (w.alloc (.cells #[.int .i64 1, .int .i64 2, .int .i64 2, .int .i64 1, .int .i64 2, .int .i64 3] 24)) w3) := bt HB2.out (Nat.le_refl _) hb3'
  have hc3 : w3.cell? ⟨g1, 0, none⟩ = some (.int .i64 1) := ((bt HD2.out (Nat.le_refl _) hb3').cell (p := ⟨g1, 0, none⟩) HG1.out).trans HCC.out
  clear hb3' HV3
  go_wp2_with (go_at_call 9; refine (HFR.out _ HB3.out).mono ?_; rintro e w4 ⟨a4, c4, rfl, hb4⟩)
  go_ret
  exact ⟨rfl, bt HB0.out (Nat.le_refl _) (bt HB3.out (Nat.le_refl _) hb4)⟩
end Go.Proofs.Ytaoghggbcbpapaa
