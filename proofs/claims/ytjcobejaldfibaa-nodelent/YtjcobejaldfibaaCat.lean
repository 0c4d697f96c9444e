/- slices.Grow of nothing, slices.Concat. -/
import Derived.Test.YtjcobejaldfibaaNod
import Derived.Lib.AppendZeros
namespace Go.Proofs.Ytjcobejaldfibaa
open Go.RowKit
set_option linter.unusedVariables false
set_option linter.unusedSimpArgs false

theorem Try.size1_28 : ∃ i, Try.prog.info? 28 = some i ∧ i.zero = some (.slice none 0 0) ∧ i.size = 1 ∧ i.bytes = 24 := by
  obtain ⟨i, hi, hz⟩ := Option.map_eq_some_iff.1 Try.info28
  simp only [Prod.mk.injEq] at hz
  exact ⟨i, hi, hz.1, hz.2.1, hz.2.2⟩
theorem Try.size1_3 : ∃ i, Try.prog.info? 3 = some i ∧ i.zero = some (.int .i64 0) ∧ i.size = 1 ∧ i.bytes = 8 := by
  obtain ⟨i, hi, hz⟩ := Option.map_eq_some_iff.1 Try.info3
  simp only [Prod.mk.injEq] at hz
  exact ⟨i, hi, hz.1, hz.2.1, hz.2.2⟩
theorem cut_fromG {t e : TypeId} (hu : Try.prog.underlying t = some (.slice e)) {i : TypeInfo} (hi : Try.prog.info? e = some i) (hsz : i.size = 1) (w : World) (ao : Option Addr) (n c l : Nat) (hl : l ≤ n) :
    (Instr.sliceAt t (.slice ao n c) (some (.int .i64 (l : Int))) none none).run Try.prog w = .ok (.slice (cutAt ao c l) (n - l) (c - l)) w := by
  have h2 : (l : Int) ≤ (n : Int) := by omega
  simp [Instr.sliceAt, Instr.slice, run_underlying hu, Instr.sliceBounds, Instr.sliceBound, asIntOf, h2, sizeOf, typeInfo, hi, hsz, cutAt, Nat.mul_one]
  by_cases e : c = l
  · simp [e]; intro hx; omega
  · simp [e]; intro hx; omega
theorem cut_toG {t e : TypeId} (hu : Try.prog.underlying t = some (.slice e)) {i : TypeInfo} (hi : Try.prog.info? e = some i) (hsz : i.size = 1) (w : World) (ao : Option Addr) (n c h : Nat) (hh : h ≤ c) :
    (Instr.sliceAt t (.slice ao n c) none (some (.int .i64 (h : Int))) none).run Try.prog w = .ok (.slice ao h c) w := by
  have h1 : (h : Int) ≤ (c : Int) := by omega
  simp [Instr.sliceAt, Instr.slice, run_underlying hu, Instr.sliceBounds, Instr.sliceBound, asIntOf, h1, sizeOf, typeInfo, hi, hsz, Nat.mul_one, hh]
  by_cases e : c = 0
  · simp [e]
  · simp [e]
    cases ao with
    | none => rfl
    | some a => obtain ⟨g, o, s⟩ := a; cases s <;> simp [Addr.add]
theorem cutT_from (w : World) (ao : Option Addr) (n c l : Nat) (hl : l ≤ n) : (Instr.sliceAt 22 (.slice ao n c) (some (.int .i64 (l : Int))) none none).run Try.prog w = .ok (.slice (cutAt ao c l) (n - l) (c - l)) w := by
  obtain ⟨i, hi, _, hs, _⟩ := Try.size1_28
  exact cut_fromG Try.underlying22 hi hs w ao n c l hl
theorem cutT_to (w : World) (ao : Option Addr) (n c h : Nat) (hh : h ≤ c) : (Instr.sliceAt 22 (.slice ao n c) none (some (.int .i64 (h : Int))) none).run Try.prog w = .ok (.slice ao h c) w := by
  obtain ⟨i, hi, _, hs, _⟩ := Try.size1_28
  exact cut_toG Try.underlying22 hi hs w ao n c h hh
theorem cutI_from (w : World) (ao : Option Addr) (n c l : Nat) (hl : l ≤ n) : (Instr.sliceAt 24 (.slice ao n c) (some (.int .i64 (l : Int))) none none).run Try.prog w = .ok (.slice (cutAt ao c l) (n - l) (c - l)) w := by
  obtain ⟨i, hi, _, hs, _⟩ := Try.size1_3
  exact cut_fromG Try.underlying24 hi hs w ao n c l hl
theorem cutI_to (w : World) (ao : Option Addr) (n c h : Nat) (hh : h ≤ c) : (Instr.sliceAt 24 (.slice ao n c) none (some (.int .i64 (h : Int))) none).run Try.prog w = .ok (.slice ao h c) w := by
  obtain ⟨i, hi, _, hs, _⟩ := Try.size1_3
  exact cut_toG Try.underlying24 hi hs w ao n c h hh
theorem size_zeroCells (z : Value) (n : Nat) (hz : z.cells = #[z]) : (Builtin.zeroCells z.cells n).size = n := by
  rw [hz]
  simp [Builtin.zeroCells]
theorem flat_take_succ {uss : List (List Value)} {k : Nat} (h : k < uss.length) : (uss.take (k + 1)).flatten = (uss.take k).flatten ++ uss.getD k [] := by
  rw [List.take_succ_eq_append_getElem h, List.flatten_append]
  simp [h]
theorem flat_take_le (uss : List (List Value)) (k : Nat) : (uss.take k).flatten.length ≤ uss.flatten.length := by
  conv => rhs; rw [← List.take_append_drop k uss, List.flatten_append, List.length_append]
  omega

set_option maxHeartbeats 400000 in
theorem growT_any (n : Nat) (hn : 24 * n ≤ 140737488355328) (w : World) :
    Calls Try.prog 52 #[.slice none 0 0, .int .i64 (n : Int)] w fun e w' => ∃ v', e = .returned v' ∧ Below w.heap.size w w' ∧ w'.ownsRow w.heap.size 28 1 v' 0 [] := by
  by_cases h0 : n = 0
  · subst h0
    go_enter Try.func52, Try.ntmps52
    go_wp2
    go_ret
    exact ⟨_, rfl, Below.refl _ _, World.ownsRow_nil _ _ _ _⟩
  · obtain ⟨i, hi, hz, hs, hb⟩ := Try.size1_28
    have hr := fun ty => Lib.run_append_nil_zeros (P := Try.prog) w 22 3 ty 28 i (.slice none 0 0) .i64 .i64 Try.underlying22 Try.underlying3 hi hz n (by omega) (by omega) (by omega) (by rw [hb]; omega)
    have hcap : n ≤ grownCap w n 0 28 := grownCap_ge w n 0 28
    have hcut0 : ∀ W, (Instr.sliceAt 22 (.slice none 0 0) none (some (.int .i64 0)) none).run Try.prog W = .ok (.slice none 0 0) W := fun W => cutT_to W none 0 0 0 (Nat.le_refl _)
    have hcut1 : ∀ W ao c, (Instr.sliceAt 22 (.slice ao n c) none (some (.int .i64 0)) none).run Try.prog W = .ok (.slice ao 0 c) W := fun W ao c => cutT_to W ao n c 0 (Nat.zero_le _)
    have hcm : grownCap w n 0 28 ≤ maxLen := grownCap_le_maxLen w n 0 28 (by simp only [maxLen]; omega)
    generalize grownCap w n 0 28 = gc at *
    have HO : Hid ((w.drew.alloc (.cells (Builtin.zeroCells (Value.cells (.slice none 0 0)) n ++ Builtin.zeroCells (Value.cells (.slice none 0 0)) (gc - n)) 28)).ownsRow w.heap.size 28 1 (.slice (some ⟨w.heap.size, 0, none⟩) 0 gc) 0 []) :=
      ⟨rfl, .inr ⟨w.heap.size, gc, _, rfl, Nat.le_refl _, heap_alloc_new w.drew _, Nat.zero_le _, hcm, by rw [Array.size_append, size_zeroCells _ _ rfl, size_zeroCells _ _ rfl]; omega, by simp⟩⟩
    have HBL : Hid (Below w.heap.size w (w.drew.alloc (.cells (Builtin.zeroCells (Value.cells (.slice none 0 0)) n ++ Builtin.zeroCells (Value.cells (.slice none 0 0)) (gc - n)) 28))) := (below_drewN _ w 1).alloc (Nat.le_refl _) _
    clear hi hz hs hb hcap hcm
    generalize w.drew.alloc (.cells (Builtin.zeroCells (Value.cells (.slice none 0 0)) n ++ Builtin.zeroCells (Value.cells (.slice none 0 0)) (gc - n)) 28) = W1 at *
    go_enter Try.func52, Try.ntmps52
    go_wp2_with (refine Lib.wpList_append_run _ rfl (.tmp 20) (.tmp 21) 22 3 rfl _ _ rfl rfl _ _ (hr _) ?_)
    go_ret
    exact ⟨_, rfl, HBL.out, HO.out⟩
set_option maxHeartbeats 400000 in
theorem concatT_any {w : World} {g m : Nat} {vs : List Value} {uss : List (List Value)} (hul : uss.length = m) (hcell : ∀ j, j < m → w.cell? ⟨g, j, none⟩ = some (vs.getD j nilS))
    (hrow : ∀ j, j < m → Row w (vs.getD j nilS) (uss.getD j []).length (uss.getD j [])) (hone : ∀ j, j < m → ∀ u ∈ uss.getD j [], u.oneCell' = true) (htot : 24 * uss.flatten.length ≤ 140737488355328) (hm : m ≤ 1000) :
    Calls Try.prog 31 #[.slice (some ⟨g, 0, none⟩) m m] w fun e w' => ∃ v', e = .returned v' ∧ Below w.heap.size w w' ∧ w'.ownsRow w.heap.size 28 1 v' uss.flatten.length uss.flatten := by
  have HS : Hid (∀ k, k < m → (uss.take (k + 1)).flatten = (uss.take k).flatten ++ uss.getD k []) := fun k hk => flat_take_succ (by omega)
  have HLE : Hid (∀ k, (uss.take k).flatten.length ≤ uss.flatten.length) := flat_take_le uss
  have HTM : Hid (uss.take m = uss) := by rw [← hul]; exact List.take_length
  have HC := hide hcell
  have HR := hide hrow
  have HO := hide hone
  have HT := hide htot
  clear hcell hrow hone hul htot
  generalize hTot : uss.flatten.length = tot at *
  have HTot := hide hTot
  clear hTot
  go_enter Try.func31, Try.ntmps31
  go_wp2
  go_loopw [11, 3] (fun i s wr => ∃ k p : Nat, k ≤ m ∧ i = .int .i64 (k : Int) ∧ s = .int .i64 (p : Int) ∧ Hid (p = (uss.take k).flatten.length) ∧ wr = w) (fun i _ _ => m - (intOf i).toNat)
  case atStart => exact ⟨0, 0, by omega, rfl, rfl, rfl, rfl⟩
  case round =>
    obtain ⟨k, p, hk, rfl, rfl, HP, rfl⟩ := hrel
    by_cases hlt : k < m
    · have hc := HC.out k hlt
      obtain ⟨a, c, hv, q1, q2, q3⟩ := HR.out k hlt
      rw [hv] at hc
      have hsum := HS.out k hlt
      have hle := HLE.out (k + 1)
      have htt := HT.out
      rw [hsum, List.length_append] at hle
      have HE : Hid ((uss.take (k + 1)).flatten.length = p + (uss.getD k []).length) := by rw [Hid, hsum, List.length_append, HP.out]
      rw [← HP.out] at hle
      clear hv q1 q2 q3 hsum
      generalize (uss.getD k []).length = q at *
      have hp : ¬ ((p : Int) + (q : Int) < 0) := by omega
      go_wp2
      go_roundw
      case rel =>
        exact ⟨k + 1, p + q, by omega, by go_num, by go_num, HE.out.symm, trivial⟩
      case measure => simp [intOf]; omega
    · have hkm : k = m := by omega
      subst hkm
      generalize hW8 : wr = W8 at *
      have HW8 := hide hW8
      clear hW8
      have hE : p = tot := by rw [HP.out, HTM.out, HTot.out]
      clear HP
      subst hE
      have HG := hide (growT_any p HT.out W8)
      go_wp2_with fail
      refine HG.out.mono ?_
      rintro e W1 ⟨u1, rfl, hb1, ho1⟩
      have HB1 := hide hb1
      have HO1 := hide ho1
      clear hb1 ho1 HG
      go_wp2
      go_loopw [27, 6] (fun i u w2 => ∃ j : Nat, j ≤ k ∧ i = .int .i64 (j : Int) ∧ Below W8.heap.size W8 w2 ∧ Hid (w2.ownsRow W8.heap.size 28 1 u (uss.take j).flatten.length (uss.take j).flatten)) (fun i _ _ => k - (intOf i).toNat)
      case atStart => exact ⟨0, by omega, rfl, HB1.out, HO1.out⟩
      case round =>
        obtain ⟨j, hj, rfl, hB, hW⟩ := hrel
        have HB := hide hB
        have HW := hW
        clear hB hW
        by_cases hlt : j < k
        · have hc := HC.out j hlt
          have hr := HR.out j hlt
          have h1 := HO.out j hlt
          have hgl := World.block_lt_of_cell? W8 _ hc
          have hc' := (HB.out.cell hgl).trans hc
          obtain ⟨a, c, hv, q1, q2, q3⟩ := hr
          have hr := HR.out j hlt
          rw [hv] at hc' hr
          have HRW := hide (hr.belowW HB.out)
          have H1 := hide h1
          have hsum := HS.out j hlt
          have hle := HLE.out (j + 1)
          have HTT := HT
          have HLJ : Hid (24 * ((uss.take j).flatten.length + (uss.getD j []).length) ≤ 140737488355328) := by have := HT.out; rw [hsum, List.length_append] at hle; rw [Hid]; omega
          have HE := hide hsum
          clear hc hr h1 hgl hv q1 q2 q3 hsum hle
          go_wp2_with (refine wpList_append_row rfl (.tmp 31) (.tmp 32) 22 rfl W8.heap.size 28 (.slice none 0 0) 1 24 Try.underlying22 Try.info28 rfl (by omega) _ _ _ _ _ _ rfl rfl HW.out HRW.out (by omega) H1.out (by have := HLJ.out; omega) (by have := HLJ.out; omega) HB.out.size ?_; intro v' W' ho hgr)
          go_roundw
          case rel =>
            refine ⟨j + 1, by omega, by go_num, grown_below HB.out HW.out hgr, ?_⟩
            rw [HE.out, List.length_append]
            exact ho
          case measure => simp [intOf]; omega
        · have hjk : j = k := by omega
          subst hjk
          rw [HTM.out, HTot.out] at HW
          go_wp2
          go_ret
          have hq := HW8.out
          subst hq
          exact ⟨_, rfl, HB.out, HW.out⟩

set_option maxHeartbeats 400000 in
theorem growI_any (n : Nat) (hn : 8 * n ≤ 140737488355328) (w : World) :
    Calls Try.prog 53 #[.slice none 0 0, .int .i64 (n : Int)] w fun e w' => ∃ v', e = .returned v' ∧ Below w.heap.size w w' ∧ w'.ownsRow w.heap.size 3 1 v' 0 [] := by
  by_cases h0 : n = 0
  · subst h0
    go_enter Try.func53, Try.ntmps53
    go_wp2
    go_ret
    exact ⟨_, rfl, Below.refl _ _, World.ownsRow_nil _ _ _ _⟩
  · obtain ⟨i, hi, hz, hs, hb⟩ := Try.size1_3
    have hr := fun ty => Lib.run_append_nil_zeros (P := Try.prog) w 24 3 ty 3 i (.int .i64 0) .i64 .i64 Try.underlying24 Try.underlying3 hi hz n (by omega) (by omega) (by omega) (by rw [hb]; omega)
    have hcap : n ≤ grownCap w n 0 3 := grownCap_ge w n 0 3
    have hcut0 : ∀ W, (Instr.sliceAt 24 (.slice none 0 0) none (some (.int .i64 0)) none).run Try.prog W = .ok (.slice none 0 0) W := fun W => cutI_to W none 0 0 0 (Nat.le_refl _)
    have hcut1 : ∀ W ao c, (Instr.sliceAt 24 (.slice ao n c) none (some (.int .i64 0)) none).run Try.prog W = .ok (.slice ao 0 c) W := fun W ao c => cutI_to W ao n c 0 (Nat.zero_le _)
    have hcm : grownCap w n 0 3 ≤ maxLen := grownCap_le_maxLen w n 0 3 (by simp only [maxLen]; omega)
    generalize grownCap w n 0 3 = gc at *
    have HO : Hid ((w.drew.alloc (.cells (Builtin.zeroCells (Value.cells (.int .i64 0)) n ++ Builtin.zeroCells (Value.cells (.int .i64 0)) (gc - n)) 3)).ownsRow w.heap.size 3 1 (.slice (some ⟨w.heap.size, 0, none⟩) 0 gc) 0 []) :=
      ⟨rfl, .inr ⟨w.heap.size, gc, _, rfl, Nat.le_refl _, heap_alloc_new w.drew _, Nat.zero_le _, hcm, by rw [Array.size_append, size_zeroCells _ _ rfl, size_zeroCells _ _ rfl]; omega, by simp⟩⟩
    have HBL : Hid (Below w.heap.size w (w.drew.alloc (.cells (Builtin.zeroCells (Value.cells (.int .i64 0)) n ++ Builtin.zeroCells (Value.cells (.int .i64 0)) (gc - n)) 3))) := (below_drewN _ w 1).alloc (Nat.le_refl _) _
    clear hi hz hs hb hcap hcm
    generalize w.drew.alloc (.cells (Builtin.zeroCells (Value.cells (.int .i64 0)) n ++ Builtin.zeroCells (Value.cells (.int .i64 0)) (gc - n)) 3) = W1 at *
    go_enter Try.func53, Try.ntmps53
    go_wp2_with (refine Lib.wpList_append_run _ rfl (.tmp 20) (.tmp 21) 24 3 rfl _ _ rfl rfl _ _ (hr _) ?_)
    go_ret
    exact ⟨_, rfl, HBL.out, HO.out⟩
set_option maxHeartbeats 400000 in
theorem concatI_any {w : World} {g m : Nat} {vs : List Value} {uss : List (List Value)} (hul : uss.length = m) (hcell : ∀ j, j < m → w.cell? ⟨g, j, none⟩ = some (vs.getD j nilS))
    (hrow : ∀ j, j < m → Row w (vs.getD j nilS) (uss.getD j []).length (uss.getD j [])) (hone : ∀ j, j < m → ∀ u ∈ uss.getD j [], u.oneCell' = true) (htot : 8 * uss.flatten.length ≤ 140737488355328) (hm : m ≤ 1000) :
    Calls Try.prog 32 #[.slice (some ⟨g, 0, none⟩) m m] w fun e w' => ∃ v', e = .returned v' ∧ Below w.heap.size w w' ∧ w'.ownsRow w.heap.size 3 1 v' uss.flatten.length uss.flatten := by
  have HS : Hid (∀ k, k < m → (uss.take (k + 1)).flatten = (uss.take k).flatten ++ uss.getD k []) := fun k hk => flat_take_succ (by omega)
  have HLE : Hid (∀ k, (uss.take k).flatten.length ≤ uss.flatten.length) := flat_take_le uss
  have HTM : Hid (uss.take m = uss) := by rw [← hul]; exact List.take_length
  have HC := hide hcell
  have HR := hide hrow
  have HO := hide hone
  have HT := hide htot
  clear hcell hrow hone hul htot
  generalize hTot : uss.flatten.length = tot at *
  have HTot := hide hTot
  clear hTot
  go_enter Try.func32, Try.ntmps32
  go_wp2
  go_loopw [11, 3] (fun i s wr => ∃ k p : Nat, k ≤ m ∧ i = .int .i64 (k : Int) ∧ s = .int .i64 (p : Int) ∧ Hid (p = (uss.take k).flatten.length) ∧ wr = w) (fun i _ _ => m - (intOf i).toNat)
  case atStart => exact ⟨0, 0, by omega, rfl, rfl, rfl, rfl⟩
  case round =>
    obtain ⟨k, p, hk, rfl, rfl, HP, rfl⟩ := hrel
    by_cases hlt : k < m
    · have hc := HC.out k hlt
      obtain ⟨a, c, hv, q1, q2, q3⟩ := HR.out k hlt
      rw [hv] at hc
      have hsum := HS.out k hlt
      have hle := HLE.out (k + 1)
      have htt := HT.out
      rw [hsum, List.length_append] at hle
      have HE : Hid ((uss.take (k + 1)).flatten.length = p + (uss.getD k []).length) := by rw [Hid, hsum, List.length_append, HP.out]
      rw [← HP.out] at hle
      clear hv q1 q2 q3 hsum
      generalize (uss.getD k []).length = q at *
      have hp : ¬ ((p : Int) + (q : Int) < 0) := by omega
      go_wp2
      go_roundw
      case rel =>
        exact ⟨k + 1, p + q, by omega, by go_num, by go_num, HE.out.symm, trivial⟩
      case measure => simp [intOf]; omega
    · have hkm : k = m := by omega
      subst hkm
      generalize hW8 : wr = W8 at *
      have HW8 := hide hW8
      clear hW8
      have hE : p = tot := by rw [HP.out, HTM.out, HTot.out]
      clear HP
      subst hE
      have HG := hide (growI_any p HT.out W8)
      go_wp2_with fail
      refine HG.out.mono ?_
      rintro e W1 ⟨u1, rfl, hb1, ho1⟩
      have HB1 := hide hb1
      have HO1 := hide ho1
      clear hb1 ho1 HG
      go_wp2
      go_loopw [27, 6] (fun i u w2 => ∃ j : Nat, j ≤ k ∧ i = .int .i64 (j : Int) ∧ Below W8.heap.size W8 w2 ∧ Hid (w2.ownsRow W8.heap.size 3 1 u (uss.take j).flatten.length (uss.take j).flatten)) (fun i _ _ => k - (intOf i).toNat)
      case atStart => exact ⟨0, by omega, rfl, HB1.out, HO1.out⟩
      case round =>
        obtain ⟨j, hj, rfl, hB, hW⟩ := hrel
        have HB := hide hB
        have HW := hW
        clear hB hW
        by_cases hlt : j < k
        · have hc := HC.out j hlt
          have hr := HR.out j hlt
          have h1 := HO.out j hlt
          have hgl := World.block_lt_of_cell? W8 _ hc
          have hc' := (HB.out.cell hgl).trans hc
          obtain ⟨a, c, hv, q1, q2, q3⟩ := hr
          have hr := HR.out j hlt
          rw [hv] at hc' hr
          have HRW := hide (hr.belowW HB.out)
          have H1 := hide h1
          have hsum := HS.out j hlt
          have hle := HLE.out (j + 1)
          have HTT := HT
          have HLJ : Hid (8 * ((uss.take j).flatten.length + (uss.getD j []).length) ≤ 140737488355328) := by have := HT.out; rw [hsum, List.length_append] at hle; rw [Hid]; omega
          have HE := hide hsum
          clear hc hr h1 hgl hv q1 q2 q3 hsum hle
          go_wp2_with (refine wpList_append_row rfl (.tmp 31) (.tmp 32) 24 rfl W8.heap.size 3 (.int .i64 0) 1 8 Try.underlying24 Try.info3 rfl (by omega) _ _ _ _ _ _ rfl rfl HW.out HRW.out (by omega) H1.out (by have := HLJ.out; omega) (by have := HLJ.out; omega) HB.out.size ?_; intro v' W' ho hgr)
          go_roundw
          case rel =>
            refine ⟨j + 1, by omega, by go_num, grown_below HB.out HW.out hgr, ?_⟩
            rw [HE.out, List.length_append]
            exact ho
          case measure => simp [intOf]; omega
        · have hjk : j = k := by omega
          subst hjk
          rw [HTM.out, HTot.out] at HW
          go_wp2
          go_ret
          have hq := HW8.out
          subst hq
          exact ⟨_, rfl, HB.out, HW.out⟩
end Go.Proofs.Ytjcobejaldfibaa
