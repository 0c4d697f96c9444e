/- same: two lists of tokens; LexWords. -/
import Derived.Test.YtnbegpfbolkdiaaDoorRws
import Derived.Test.YtnbegpfbolkdiaaDoorAwk
namespace Go.Proofs.YtnbegpfbolkdiaaDoor
set_option maxRecDepth 100000
open Go.RowKit
set_option linter.unusedVariables false
set_option linter.unusedSimpArgs false

theorem Tryd.under29 : Tryd.prog.underlying 29 = some (.struct (Tryd.prog.fieldsOf 29)) := by kernel_rfl
theorem eq29 (w : World) (t : Tk) : (Op.equalIn 10000 29 (.agg #[.int .i64 (t.k : Int), .string (strOf t.t), .int .i64 (t.n : Int), .int .i64 (t.p : Int)]) (.agg #[.int .i64 (t.k : Int), .string (strOf t.t), .int .i64 (t.n : Int), .int .i64 (t.p : Int)])).run Tryd.prog w = .ok true w := by
  have u3 := Tryd.underlying3
  have u9 := Tryd.underlying9
  have a3 := Tryd.isAgg3
  have a9 := Tryd.isAgg9
  have z3 : ∀ w, (sizeOf 3).run Tryd.prog w = .ok 1 w := fun w => by kernel_rfl
  have z9 : ∀ w, (sizeOf 9).run Tryd.prog w = .ok 1 w := fun w => by kernel_rfl
  have hp : Tryd.prog.stoodInHeld 29 = false := by kernel_rfl
  rw [show (10000 : Nat) = 9999 + 1 from rfl, run_equalIn_agg w 9999 29 _ _ Tryd.under29 hp]
  simp only [Program.fieldsOf, Tryd.underlying29]
  go_simp
theorem run_neq29 (w : World) (t : Tk) : (binOp .neq 29 (.agg #[.int .i64 (t.k : Int), .string (strOf t.t), .int .i64 (t.n : Int), .int .i64 (t.p : Int)]) (.agg #[.int .i64 (t.k : Int), .string (strOf t.t), .int .i64 (t.n : Int), .int .i64 (t.p : Int)])).run Tryd.prog w = .ok (.bool false) w := by
  rw [run_neq_struct, eq29 w t]
  rfl
set_option maxHeartbeats 2000000 in
theorem same_any {w : World} {u v : Value} {l : List Tk} (hu : TsAt w u l) (hv : TsAt w v l) :
    Calls Tryd.prog 10 #[u, v] w fun e w' => e = .returned (.bool true) ∧ Below w.heap.size w w' := by
  obtain ⟨ao, c, rfl, hc1, hc2⟩ := hu.len
  obtain ⟨ao', c', rfl, hc1', hc2'⟩ := hv.len
  simp only [maxLen] at hc2 hc2'
  have HU := hide hu
  have HV := hide hv
  clear hu hv
  generalize hL : l.length = L at *
  have HLE := hide hL
  clear hL
  go_enter Tryd.func10, Tryd.ntmps10
  go_wp2
  go_loopw [5] (fun i wr => ∃ k m : Nat, k ≤ L ∧ i = .int .i64 (k : Int) ∧ wr = w.drewN m) (fun i _ => restQ L i)
  case atStart => exact ⟨0, 0, by omega, rfl, rfl⟩
  case round =>
    obtain ⟨k, m, hk, rfl, rfl⟩ := hrel
    by_cases hlt : k < L
    · obtain ⟨g, o, hao, hC⟩ := HU.out.get k (by rw [HLE.out]; exact hlt)
      obtain ⟨g', o', hao', hC'⟩ := HV.out.get k (by rw [HLE.out]; exact hlt)
      subst hao hao'
      obtain ⟨k0, k1, k2, k3⟩ := hC
      obtain ⟨j0, j1, j2, j3⟩ := hC'
      generalize l.getD k Tk.zero = V at *
      have hn := fun w => run_neq29 w V
      have he := fun w => eq29 w V
      go_wp2
      go_quiet (fail)
      go_wp2
      go_roundw
      case rel => exact ⟨k + 1, _, by omega, by simp, rfl⟩
      case measure => simp [restQ]; omega
    · have hkL : k = L := by omega
      subst hkL
      go_wp2
      go_ret
      exact ⟨rfl, below_drewN _ _ _⟩
set_option maxHeartbeats 2000000 in
/-- LexWords. -/
theorem lexWords_walk (s : ByteArray) (w : World) (hr : Ready w) : Calls Tryd.prog 4 #[.string s] w fun e w' => e = .returned (.bool true) ∧ Below w.heap.size w w' := by
  have H1 := hide (fun w hr => words_any s w hr)
  have H2 := hide (fun w => refWords_any s w)
  have HA := hide (fun w hr => awake_any w hr)
  have HR := hide hr
  clear hr
  unfold WordsE at H1
  unfold RefW at H2
  generalize wordsF s.data.toList = W at *
  obtain ⟨ts, er, pl⟩ := W
  dsimp only at H1 H2
  obtain ⟨er, her⟩ : ∃ z : Int, (er : Int) = z := ⟨_, rfl⟩
  obtain ⟨pl, hpl⟩ : ∃ z : Int, (pl : Int) = z := ⟨_, rfl⟩
  rw [her, hpl] at H1 H2
  clear her hpl
  go_enter Tryd.func4, Tryd.ntmps4
  go_wp2_with fail
  refine (H1.out _ HR.out).mono ?_
  rintro e W1 ⟨u1, rfl, hT1⟩
  have hR1 := HR.out.below hT1.below
  have HT1 := hide hT1
  clear hT1
  go_wp2_with fail
  refine (H2.out _).mono ?_
  rintro e W2 ⟨u2, rfl, hT2⟩
  obtain ⟨ao, c, rfl, hc1, hc2⟩ := HT1.out.at.len
  obtain ⟨ao2, c2, rfl, hc3, hc4⟩ := hT2.at.len
  have HR2 := hide (hR1.below hT2.below)
  have HT1b := hide (HT1.out.belowW hT2.below)
  have HT2 := hide hT2
  clear hT2 hR1
  have HS : Hid (∀ o : Obj, Calls Tryd.prog 10 #[.slice ao ts.length c, .slice ao2 ts.length c2] (W2.alloc o) fun e w' => e = .returned (.bool true) ∧ Below (W2.alloc o).heap.size (W2.alloc o) w') := fun o => same_any (HT1b.out.alloc o).at (HT2.out.alloc o).at
  generalize ts.length = L at *
  go_wp2_with fail
  refine (HS.out _).mono ?_
  rintro e W3 ⟨rfl, hB3⟩
  have hq : W3.heap[W2.heap.size]? = some (.cells #[.slice ao2 L c2, .int .i64 er, .int .i64 pl] 32 (0, 0)) := (hB3.block _ (by simp)).trans (heap_alloc_new _ _)
  have q1 := cell_row (o := 1) hq
  have q2 := cell_row (o := 2) hq
  simp only [List.getElem?_toArray, List.getElem?_cons_zero, List.getElem?_cons_succ] at q1 q2
  have hA0 := (Below.refl W2.heap.size W2).alloc (Nat.le_refl _) (.cells #[.slice ao2 L c2, .int .i64 er, .int .i64 pl] 32)
  have hA1 := hA0.trans (hB3.mono hA0.size)
  have HA3 := hide (HA.out W3 (HR2.out.below hA1))
  have HB3 := hide ((HT1b.out.below.trans (hA1.mono HT1b.out.below.size)))
  clear hq hA0 hA1 hB3
  go_wp2_with (first | (go_at_call 7; refine HA3.out.mono ?_; rintro e W4 ⟨rfl, hb⟩))
  go_ret
  exact ⟨rfl, HB3.out.trans (hb.mono HB3.out.size)⟩
end Go.Proofs.YtnbegpfbolkdiaaDoor
