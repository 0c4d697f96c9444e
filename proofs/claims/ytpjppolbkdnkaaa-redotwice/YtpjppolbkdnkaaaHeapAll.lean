/- container/heap over losers: Swap, up, down, Push, Pop, Fix, as functions on lists; their order. -/
import Derived.Test.YtpjppolbkdnkaaaBack
import Derived.BigRegion
import Derived.Test.YtpjppolbkdnkaaaLose
namespace Go.Proofs.Ytpjppolbkdnkaaa
open Go.RowKit
set_option linter.unusedVariables false
set_option linter.unusedSimpArgs false

set_option maxHeartbeats 4000000 in
set_option maxRecDepth 100000 in
theorem swap_ne (g n c i j : Nat) (x y : Los) (w : World) (hi : i < n) (hj : j < n) (hij : i ≠ j) (cur : Array Value) (hg : w.heap[g]? = some (.cells cur 110 (0, 0)))
    (hx0 : cur[i * 2]? = some (.int .i64 x.id)) (hx1 : cur[i * 2 + 1]? = some (.int .i64 x.next)) (hy0 : cur[j * 2]? = some (.int .i64 y.id)) (hy1 : cur[j * 2 + 1]? = some (.int .i64 y.next)) :
    Calls Try.prog 116 #[.slice (some ⟨g, 0, none⟩) n c, .int .i64 i, .int .i64 j] w fun e w' => e = .returned (.tuple #[]) ∧ Off [g] w w' ∧ w'.heap[g]? = some (.cells ((((cur.setIfInBounds (i * 2) (.int .i64 y.id)).setIfInBounds (i * 2 + 1) (.int .i64 y.next)).setIfInBounds (j * 2) (.int .i64 x.id)).setIfInBounds (j * 2 + 1) (.int .i64 x.next)) 110 (0, 0)) := by
  have c0 : w.cell? ⟨g, i * 2, none⟩ = some (.int .i64 x.id) := by rw [cell_of_row _ _ _ _ _ _ hg]; exact hx0
  have c1 : w.cell? ⟨g, i * 2 + 1, none⟩ = some (.int .i64 x.next) := by rw [cell_of_row _ _ _ _ _ _ hg]; exact hx1
  have c2 : w.cell? ⟨g, j * 2, none⟩ = some (.int .i64 y.id) := by rw [cell_of_row _ _ _ _ _ _ hg]; exact hy0
  have c3 : w.cell? ⟨g, j * 2 + 1, none⟩ = some (.int .i64 y.next) := by rw [cell_of_row _ _ _ _ _ _ hg]; exact hy1
  have f0 : w.frozen? ⟨g, i * 2, none⟩ = false := frozen_of_row _ _ _ _ _ hg
  have f1 : w.frozen? ⟨g, i * 2 + 1, none⟩ = false := frozen_of_row _ _ _ _ _ hg
  have f2 : w.frozen? ⟨g, j * 2, none⟩ = false := frozen_of_row _ _ _ _ _ hg
  have f3 : w.frozen? ⟨g, j * 2 + 1, none⟩ = false := frozen_of_row _ _ _ _ _ hg
  have HG := hide hg
  clear hg hx0 hx1 hy0 hy1
  have n1 : i * 2 ≠ j * 2 := by omega
  have n2 : i * 2 ≠ j * 2 + 1 := by omega
  have n3 : i * 2 + 1 ≠ j * 2 := by omega
  have n4 : j * 2 ≠ i * 2 := by omega
  have n5 : j * 2 + 1 ≠ i * 2 := by omega
  have n6 : j * 2 ≠ i * 2 + 1 := by omega
  have hji : ¬ j = i := fun e => hij e.symm
  go_enter Try.func116, Try.ntmps116
  go_wp2
  go_region
  refine bodyPost_end (results_none rfl _ _ _) rfl ?_
  have b1 := heap_setCell_same w g (i * 2) _ 110 (.int .i64 y.id) HG.out
  have b2 := heap_setCell_same _ g (i * 2 + 1) _ 110 (.int .i64 y.next) b1
  have b3 := heap_setCell_same _ g (j * 2) _ 110 (.int .i64 x.id) b2
  have b4 := heap_setCell_same _ g (j * 2 + 1) _ 110 (.int .i64 x.next) b3
  have hO : Off [g] w ((((w.setCell ⟨g, i * 2, none⟩ (.int .i64 y.id)).setCell ⟨g, i * 2 + 1, none⟩ (.int .i64 y.next)).setCell ⟨g, j * 2, none⟩ (.int .i64 x.id)).setCell ⟨g, j * 2 + 1, none⟩ (.int .i64 x.next)) := ((((Off.refl [g] w).setCell _ _ (.inl (by simp))).setCell _ _ (.inl (by simp))).setCell _ _ (.inl (by simp))).setCell _ _ (.inl (by simp))
  exact ⟨rfl, hO.drew, b4⟩
theorem losRow_len (l : List Los) : (losRow l).length = l.length * 2 := by
  unfold losRow
  rw [List.flatMap_def, flat_length 2 _ (fun y hy => by obtain ⟨z, _, rfl⟩ := List.mem_map.1 hy; rfl), List.length_map]
theorem losRow_set (H : List Los) (i : Nat) (hi : i < H.length) (x : Los) : ((losRow H).set (i * 2) (.int .i64 x.id)).set (i * 2 + 1) (.int .i64 x.next) = losRow (H.set i x) := by
  have hl : ∀ y ∈ H.map losCells, y.length = 2 := fun y hy => by obtain ⟨z, _, rfl⟩ := List.mem_map.1 hy; rfl
  have h1 := flat_set1 2 (.int .i64 x.id) (H.map losCells) hl i (by rw [List.length_map]; exact hi) 0 (by omega)
  rw [Nat.add_zero] at h1
  unfold losRow
  rw [List.flatMap_def, h1, List.flatMap_def]
  obtain ⟨M, hM⟩ : ∃ M, (H.map losCells).set i (((H.map losCells)[i]'(by rw [List.length_map]; exact hi)).set 0 (.int .i64 x.id)) = M := ⟨_, rfl⟩
  rw [hM]
  have hl2 : ∀ y ∈ M, y.length = 2 := fun y hy => by
    rw [← hM] at hy
    rcases List.mem_or_eq_of_mem_set hy with h | h
    · exact hl y h
    · rw [h, List.length_set]; exact hl _ (List.getElem_mem _)
  have hlM : i < M.length := by rw [← hM, List.length_set, List.length_map]; exact hi
  rw [flat_set1 2 (.int .i64 x.next) M hl2 i hlM 1 (by omega)]
  congr 1
  have e : M[i] = [.int .i64 x.id, .int .i64 H[i].next] := by
    subst hM
    rw [List.getElem_set_self, List.getElem_map]
    rfl
  rw [e, ← hM, List.set_set, List.map_set]
  rfl
section
variable {w0 w w' : World} {R : Nat} {lg : Sv} {los wr : Value} {H : List Los} {O : List Ln} {K : List (Nat × Obj)}
theorem swap_los {g c : Nat} (x : UndoIs w0 w R lg (.slice (some ⟨g, 0, none⟩) H.length c) wr H O K) (i j : Nat) (a b : Los) (ha : H[i]? = some a) (hb : H[j]? = some b) (hij : i ≠ j) :
    Calls Try.prog 116 #[.slice (some ⟨g, 0, none⟩) H.length c, .int .i64 i, .int .i64 j] w fun e w' => e = .returned (.tuple #[]) ∧ UndoIs w0 w' R lg (.slice (some ⟨g, 0, none⟩) ((H.set i b).set j a).length c) wr ((H.set i b).set j a) O K := by
  have hi := (List.getElem?_eq_some_iff.1 ha).1
  have hj := (List.getElem?_eq_some_iff.1 hb).1
  obtain ⟨g', c', cur, e, h1, h2, h3, h4, h5, h6⟩ := own_some x.heap (by omega)
  injection e with q1 q2 q3
  injection q1 with q1
  injection q1 with q1 q4
  subst q1; subst q3
  have cell : ∀ q v, (losRow H)[q]? = some v → cur[q]? = some v := fun q v hv => by
    rw [← h6] at hv
    have hq := (List.getElem?_eq_some_iff.1 hv).1
    rw [List.length_take] at hq
    rw [List.getElem?_take_of_lt (by omega)] at hv
    rw [← Array.getElem?_toList]; exact hv
  obtain ⟨a0, a1⟩ := losRow_get H i a ha
  obtain ⟨b0, b1⟩ := losRow_get H j b hb
  refine (swap_ne g H.length c i j a b w hi hj hij cur h2 (cell _ _ a0) (cell _ _ a1) (cell _ _ b0) (cell _ _ b1)).mono ?_
  rintro e w' ⟨rfl, hO, hg⟩
  refine ⟨rfl, x.reRow hO _ hg (by simpa using h5) (by simp) h3 h4 ?_⟩
  simp only [Array.toList_setIfInBounds, List.take_set, List.length_set]
  rw [h6, losRow_set H i hi b, losRow_set (H.set i b) j (by rw [List.length_set]; exact hj) a]
/-- heap.up. -/
def upL : Nat → List Los → Nat → List Los
  | 0, H, _ => H
  | k + 1, H, j => match H[j]?, H[(j - 1) / 2]? with
    | some b, some a => if j ≠ 0 ∧ b.less a = true then upL k ((H.set ((j - 1) / 2) b).set j a) ((j - 1) / 2) else H
    | _, _ => H
theorem upL_eq (k : Nat) (H : List Los) (j : Nat) (a b : Los) (hb : H[j]? = some b) (ha : H[(j - 1) / 2]? = some a) : upL (k + 1) H j = if j ≠ 0 ∧ b.less a = true then upL k ((H.set ((j - 1) / 2) b).set j a) ((j - 1) / 2) else H := by
  simp [upL, hb, ha]
/-- More rounds than there are change nothing. -/
theorem upL_more : ∀ (k m : Nat) (H : List Los) (j : Nat), j < k → j < m → upL k H j = upL m H j
  | 0, _, _, _, h, _ => by omega
  | _ + 1, 0, _, _, _, h => by omega
  | k + 1, m + 1, H, j, h1, h2 => by
    cases hb : H[j]? with
    | none => simp [upL, hb]
    | some b =>
      cases ha : H[(j - 1) / 2]? with
      | none => simp [upL, hb, ha]
      | some a =>
        rw [upL_eq k H j a b hb ha, upL_eq m H j a b hb ha]
        by_cases hc : j ≠ 0 ∧ b.less a = true
        · rw [if_pos hc, if_pos hc]
          exact upL_more k m _ _ (by omega) (by omega)
        · rw [if_neg hc, if_neg hc]
set_option maxHeartbeats 4000000 in
set_option maxRecDepth 100000 in
theorem up_any (x : UndoIs w0 w R lg los wr H O K) (j : Nat) (hj : j < H.length) (hH : H.length ≤ 100000) :
    Calls Try.prog 74 #[.iface 108 (.pointer (some ⟨R, 7, none⟩)), .int .i64 j] w fun e w' => e = .returned (.tuple #[]) ∧ ∃ los' H', UndoIs w0 w' R lg los' wr H' O K ∧ H' = upL (j + 1) H j := by
  have HX := hide x
  clear x
  go_enter Try.func74, Try.ntmps74
  go_wp2
  go_loopw [1, 4] (fun a b wx => ∃ (q : Nat) (los' : Value) (H' : List Los), a = .int .i64 q ∧ q ≤ j ∧ q < H'.length ∧ H'.length ≤ 100000 ∧ UndoIs w0 wx R lg los' wr H' O K ∧ upL (q + 1) H' q = upL (j + 1) H j) (fun a _ _ => (iv a).toNat)
  case atStart => exact ⟨j, los, H, rfl, Nat.le_refl _, hj, hH, HX.out, rfl⟩
  case round =>
    obtain ⟨q, los', H', rfl, hqj, hqH, hHl, hX, hup⟩ := hrel
    obtain ⟨b, hb⟩ : ∃ b, H'[q]? = some b := ⟨_, List.getElem?_eq_getElem hqH⟩
    obtain ⟨a, ha⟩ : ∃ a, H'[(q - 1) / 2]? = some a := ⟨_, List.getElem?_eq_getElem (by omega)⟩
    have hupe := upL_eq q H' q a b hb ha
    have HUP := hide (And.intro hup hupe)
    have HX1 := hide hX
    by_cases hq0 : q = 0
    · subst hq0
      clear hX hup hupe
      go_wp2
      go_end0
      refine ⟨rfl, los', H', HX1.out, ?_⟩
      rw [← HUP.out.1, HUP.out.2, if_neg (by simp)]
    · obtain ⟨g, c, cur, hlos, _⟩ := own_some hX.heap (by omega)
      subst hlos
      have hml := mLess R wr _ hX.c7
      have hqi : ((q : Int) - 1).tdiv 2 = (((q - 1) / 2 : Nat) : Int) := by
        rw [Int.tdiv_eq_ediv_of_nonneg (by omega)]
        omega
      obtain ⟨i, hi⟩ : ∃ i, (q - 1) / 2 = i := ⟨_, rfl⟩
      rw [hi] at hqi ha HUP
      have hiq : i ≠ q := by omega
      have hiqlt : i < q := by omega
      have hiq' : ((i : Int) == (q : Int)) = false := beq_eq_false_iff_ne.2 (by omega)
      have hil : i < H'.length := by omega
      have HLS := hide (less_los hX.heap q i b a hb ha)
      have HAB := hide (And.intro ha hb)
      obtain ⟨m, hm⟩ : ∃ m, H'.length = m := ⟨_, rfl⟩
      have HM := hide hm
      rw [hm] at HLS hml
      clear hX hup hupe ha hb hi hm
      by_cases hls : b.less a = true
      · rw [hls] at HLS
        have HLT := hide hls
        clear hls
        go_wp2_with (first
          | (go_at_call 115; refine HLS.out.mono ?_; rintro e w2 ⟨rfl, hb2⟩
             have hX2 := HX1.out.stayD hb2
             have hms := mSwap R w2 _ hX2.c7
             have HSW := hide (swap_los hX2 i q a b HAB.out.1 HAB.out.2 hiq)
             rw [HM.out] at HSW hms
             clear hX2 hml hb2)
          | (go_at_call 116; refine HSW.out.mono ?_; rintro e w3 ⟨rfl, hX3⟩; have HX3 := hide hX3; clear hX3))
        go_roundw
        case rel =>
          refine ⟨i, _, (H'.set i b).set q a, rfl, by omega, by simp; omega, by simp; omega, HX3.out, ?_⟩
          rw [← HUP.out.1, HUP.out.2, if_pos ⟨hq0, HLT.out⟩]
          exact upL_more _ _ _ _ (by omega) (by omega)
        case measure => simp [iv]; omega
      · have hls' : b.less a = false := by simpa using hls
        rw [hls'] at HLS
        have HLT := hide hls
        clear hls hls'
        go_wp2_with (go_at_call 115; refine HLS.out.mono ?_; rintro e w2 ⟨rfl, hb2⟩; have HX2 := hide (HX1.out.stayD hb2); clear hb2)
        go_end0
        refine ⟨rfl, _, H', HX2.out, ?_⟩
        rw [← HUP.out.1, HUP.out.2, if_neg (fun h => HLT.out h.2)]
end
end Go.Proofs.Ytpjppolbkdnkaaa
namespace Go.Proofs.Ytpjppolbkdnkaaa
open Go.RowKit
set_option linter.unusedVariables false
set_option linter.unusedSimpArgs false

/-- The child that goes ahead. -/
def kid (H : List Los) (i n : Nat) : Nat := match H[2 * i + 2]?, H[2 * i + 1]? with
  | some r, some l => if 2 * i + 2 < n ∧ r.less l = true then 2 * i + 2 else 2 * i + 1
  | _, _ => 2 * i + 1
theorem kid_cases (H : List Los) (i n : Nat) : kid H i n = 2 * i + 1 ∨ kid H i n = 2 * i + 2 := by
  unfold kid
  split
  · split
    · exact .inr rfl
    · exact .inl rfl
  · exact .inl rfl
def downL : Nat → List Los → Nat → Nat → List Los × Nat
  | 0, H, i, _ => (H, i)
  | k + 1, H, i, n => if 2 * i + 1 ≥ n then (H, i) else match H[kid H i n]?, H[i]? with
    | some b, some a => if b.less a = true then downL k ((H.set i b).set (kid H i n) a) (kid H i n) n else (H, i)
    | _, _ => (H, i)
theorem downL_end (k : Nat) (H : List Los) (i n : Nat) (h : 2 * i + 1 ≥ n) : downL (k + 1) H i n = (H, i) := by simp [downL, h]
theorem downL_eq (k : Nat) (H : List Los) (i n : Nat) (h : ¬ 2 * i + 1 ≥ n) (a b : Los) (hb : H[kid H i n]? = some b) (ha : H[i]? = some a) : downL (k + 1) H i n = if b.less a = true then downL k ((H.set i b).set (kid H i n) a) (kid H i n) n else (H, i) := by
  have e : downL (k + 1) H i n = if 2 * i + 1 ≥ n then (H, i) else match H[kid H i n]?, H[i]? with
    | some b, some a => if b.less a = true then downL k ((H.set i b).set (kid H i n) a) (kid H i n) n else (H, i)
    | _, _ => (H, i) := rfl
  rw [e, if_neg h, hb, ha]
theorem downL_more : ∀ (k m : Nat) (H : List Los) (i n : Nat), n < i + k → n < i + m → downL k H i n = downL m H i n
  | 0, 0, _, _, _, _, _ => rfl
  | 0, m + 1, H, i, n, h1, h2 => by rw [downL_end m H i n (by omega)]; rfl
  | k + 1, 0, H, i, n, h1, h2 => by rw [downL_end k H i n (by omega)]; rfl
  | k + 1, m + 1, H, i, n, h1, h2 => by
    by_cases h : 2 * i + 1 ≥ n
    · rw [downL_end k H i n h, downL_end m H i n h]
    · cases hb : H[kid H i n]? with
      | none => simp [downL, h, hb]
      | some b =>
        cases ha : H[i]? with
        | none => simp [downL, h, hb, ha]
        | some a =>
          rw [downL_eq k H i n h a b hb ha, downL_eq m H i n h a b hb ha]
          split
          · have := kid_cases H i n
            exact downL_more k m _ _ n (by omega) (by omega)
          · rfl
section
variable {w0 w w' : World} {R : Nat} {lg : Sv} {los vr : Value} {H : List Los} {O : List Ln} {K : List (Nat × Obj)}
theorem lessU {g c : Nat} (x : UndoIs w0 w R lg (.slice (some ⟨g, 0, none⟩) H.length c) vr H O K) (i j : Nat) (a b : Los) (ha : H[i]? = some a) (hb : H[j]? = some b) :
    Calls Try.prog 115 #[.slice (some ⟨g, 0, none⟩) H.length c, .int .i64 i, .int .i64 j] w fun e w' => e = .returned (.bool (a.less b)) ∧ UndoIs w0 w' R lg (.slice (some ⟨g, 0, none⟩) H.length c) vr H O K :=
  (less_los x.heap i j a b ha hb).mono (fun e w' h => ⟨h.1, x.stayD h.2⟩)
set_option maxHeartbeats 4000000 in
set_option maxRecDepth 100000 in
theorem down_any (x : UndoIs w0 w R lg los vr H O K) (i0 n : Nat) (hn : n ≤ H.length) (hi0 : i0 < H.length) (hH : H.length ≤ 100000) :
    Calls Try.prog 79 #[.iface 108 (.pointer (some ⟨R, 7, none⟩)), .int .i64 i0, .int .i64 n] w fun e w' => ∃ los' H' q, e = .returned (.bool (decide (i0 < q))) ∧ UndoIs w0 w' R lg los' vr H' O K ∧ (H', q) = downL (n + 1) H i0 n := by
  have HX := hide x
  clear x
  go_enter Try.func79, Try.ntmps79
  go_wp2
  go_loopw [7] (fun a wx => ∃ (q : Nat) (los' : Value) (H' : List Los), a = .int .i64 q ∧ q < H'.length ∧ n ≤ H'.length ∧ H'.length ≤ 100000 ∧ UndoIs w0 wx R lg los' vr H' O K ∧ downL (n + 1) H' q n = downL (n + 1) H i0 n) (fun a _ => n - (iv a).toNat)
  case atStart => exact ⟨i0, los, H, rfl, hi0, hn, hH, HX.out, rfl⟩
  case round =>
    obtain ⟨q, los', H', rfl, hqH, hnH, hHl, hX, hdn⟩ := hrel
    have HX1 := hide hX
    obtain ⟨j1, hj1⟩ : ∃ j1, 2 * q + 1 = j1 := ⟨_, rfl⟩
    obtain ⟨j2, hj2⟩ : ∃ j2, 2 * q + 2 = j2 := ⟨_, rfl⟩
    have e1 : 2 * (q : Int) + 1 = (j1 : Int) := by omega
    have e2 : (j1 : Int) + 1 = (j2 : Int) := by omega
    have hj0 : decide ((j1 : Int) < 0) = false := decide_eq_false (by omega)
    by_cases hend : j1 ≥ n
    · have hd : decide ((j1 : Int) ≥ (n : Int)) = true := decide_eq_true (by omega)
      have HDN := hide (And.intro hdn (downL_end n H' q n (by omega)))
      clear hX hdn
      go_wp2
      go_ret
      exact ⟨los', H', q, by simp, HX1.out, by rw [← HDN.out.1, HDN.out.2]⟩
    · have hd : decide ((j1 : Int) ≥ (n : Int)) = false := decide_eq_false (by omega)
      obtain ⟨g, c, cur, hlos, _⟩ := own_some hX.heap (by omega)
      subst hlos
      obtain ⟨a, ha⟩ : ∃ a, H'[q]? = some a := ⟨_, List.getElem?_eq_getElem hqH⟩
      obtain ⟨l, hl⟩ : ∃ l, H'[j1]? = some l := ⟨_, List.getElem?_eq_getElem (by omega)⟩
      obtain ⟨m, hm⟩ : ∃ m, H'.length = m := ⟨_, rfl⟩
      have HM := hide hm
      have hml := mLess R wr _ hX.c7
      rw [hm] at hml
      by_cases h2 : j2 < n
      · have hd2 : decide ((j2 : Int) < (n : Int)) = true := decide_eq_true (by omega)
        obtain ⟨r, hr⟩ : ∃ r, H'[j2]? = some r := ⟨_, List.getElem?_eq_getElem (by omega)⟩
        have hkid : kid H' q n = if r.less l = true then j2 else j1 := by
          unfold kid
          rw [hj1, hj2, hr, hl]
          simp only [h2, true_and]
        have HLS1 := hide (lessU hX j2 j1 r l hr hl)
        rw [hm] at HLS1
        by_cases hrl : r.less l = true
        · rw [hrl] at HLS1
          rw [if_pos hrl] at hkid
          have hde := downL_eq n H' q n (by omega) a r (by rw [hkid]; exact hr) ha
          rw [hkid] at hde
          have HDN := hide (And.intro hdn hde)
          have HAB := hide (And.intro ha hr)
          have hjq : q ≠ j2 := by omega
          have hjq' : q < j2 := by omega
          have hjl : j2 < H'.length := by omega
          have hjn : j2 < n := by omega
          have HX1m : Hid (UndoIs w0 wr R lg (.slice (some ⟨g, 0, none⟩) m c) vr H' O K) := by rw [← hm]; exact hX
          have HLS2 : Hid (∀ W, UndoIs w0 W R lg (.slice (some ⟨g, 0, none⟩) m c) vr H' O K → Calls Try.prog 115 #[.slice (some ⟨g, 0, none⟩) m c, .int .i64 (j2 : Nat), .int .i64 (q : Nat)] W fun e w' => e = .returned (.bool (Los.less r a)) ∧ UndoIs w0 w' R lg (.slice (some ⟨g, 0, none⟩) m c) vr H' O K) := fun W hW => by
            have z := lessU (H := H') (c := c) (by rw [HM.out]; exact hW) j2 q r a HAB.out.2 HAB.out.1
            rw [HM.out] at z
            exact z
          have HSW2 : Hid (∀ W, UndoIs w0 W R lg (.slice (some ⟨g, 0, none⟩) m c) vr H' O K → Calls Try.prog 116 #[.slice (some ⟨g, 0, none⟩) m c, .int .i64 (q : Nat), .int .i64 (j2 : Nat)] W fun e w' => e = .returned (.tuple #[]) ∧ ∃ los9, UndoIs w0 w' R lg los9 vr ((H'.set q r).set j2 a) O K) := fun W hW => by
            have z := swap_los (H := H') (c := c) (by rw [HM.out]; exact hW) q j2 a r HAB.out.1 HAB.out.2 hjq
            rw [HM.out] at z
            exact z.mono (fun e w' h => ⟨h.1, _, h.2⟩)
          clear hX hdn hde hkid hm ha hl hr
          by_cases hls : Los.less r a = true
          · have HLT := hide hls
            go_wp2_with (first
              | (go_at_call 115; refine HLS1.out.mono ?_; rintro e w2 ⟨rfl, hX2⟩; have HX2 := hide hX2; have hml2 := mLess R w2 _ hX2.c7; clear hX2 hml HLS1; have hml := hml2; clear hml2)
              | (go_at_call 115; refine (HLS2.out _ HX2.out).mono ?_; rw [HLT.out]; rintro e w3 ⟨rfl, hX3⟩
                 have hms := mSwap R w3 _ hX3.c7
                 have HX3 := hide hX3
                 clear hX3 hml)
              | (go_at_call 116; refine (HSW2.out _ HX3.out).mono ?_; rintro e w4 ⟨rfl, los9, hX4⟩; have HX4 := hide hX4; clear hX4))
            go_roundw
            case rel =>
              refine ⟨j2, _, (H'.set q r).set j2 a, rfl, by simp; omega, by simp; omega, by simp; omega, HX4.out, ?_⟩
              rw [← HDN.out.1, HDN.out.2, if_pos HLT.out]
              exact downL_more _ _ _ _ _ (by omega) (by omega)
            case measure => simp [iv]; omega
          · have hls' : Los.less r a = false := by simpa using hls
            have HLT := hide (And.intro hls hls')
            clear hls hls'
            go_wp2_with (first
              | (go_at_call 115; refine HLS1.out.mono ?_; rintro e w2 ⟨rfl, hX2⟩; have HX2 := hide hX2; have hml2 := mLess R w2 _ hX2.c7; clear hX2 hml HLS1; have hml := hml2; clear hml2)
              | (go_at_call 115; refine (HLS2.out _ HX2.out).mono ?_; rw [HLT.out.2]; rintro e w3 ⟨rfl, hX3⟩
                 have HX3 := hide hX3
                 clear hX3 hml))
            go_ret
            exact ⟨_, H', q, by simp, HX3.out, by rw [← HDN.out.1, HDN.out.2, if_neg HLT.out.1]⟩
        · have hrl' : r.less l = false := by simpa using hrl
          rw [hrl'] at HLS1
          rw [if_neg hrl] at hkid
          have hde := downL_eq n H' q n (by omega) a l (by rw [hkid]; exact hl) ha
          rw [hkid] at hde
          have HDN := hide (And.intro hdn hde)
          have HAB := hide (And.intro ha hl)
          have hjq : q ≠ j1 := by omega
          have hjq' : q < j1 := by omega
          have hjl : j1 < H'.length := by omega
          have hjn : j1 < n := by omega
          have HX1m : Hid (UndoIs w0 wr R lg (.slice (some ⟨g, 0, none⟩) m c) vr H' O K) := by rw [← hm]; exact hX
          have HLS2 : Hid (∀ W, UndoIs w0 W R lg (.slice (some ⟨g, 0, none⟩) m c) vr H' O K → Calls Try.prog 115 #[.slice (some ⟨g, 0, none⟩) m c, .int .i64 (j1 : Nat), .int .i64 (q : Nat)] W fun e w' => e = .returned (.bool (Los.less l a)) ∧ UndoIs w0 w' R lg (.slice (some ⟨g, 0, none⟩) m c) vr H' O K) := fun W hW => by
            have z := lessU (H := H') (c := c) (by rw [HM.out]; exact hW) j1 q l a HAB.out.2 HAB.out.1
            rw [HM.out] at z
            exact z
          have HSW2 : Hid (∀ W, UndoIs w0 W R lg (.slice (some ⟨g, 0, none⟩) m c) vr H' O K → Calls Try.prog 116 #[.slice (some ⟨g, 0, none⟩) m c, .int .i64 (q : Nat), .int .i64 (j1 : Nat)] W fun e w' => e = .returned (.tuple #[]) ∧ ∃ los9, UndoIs w0 w' R lg los9 vr ((H'.set q l).set j1 a) O K) := fun W hW => by
            have z := swap_los (H := H') (c := c) (by rw [HM.out]; exact hW) q j1 a l HAB.out.1 HAB.out.2 hjq
            rw [HM.out] at z
            exact z.mono (fun e w' h => ⟨h.1, _, h.2⟩)
          clear hX hdn hde hkid hm ha hl hr
          by_cases hls : Los.less l a = true
          · have HLT := hide hls
            go_wp2_with (first
              | (go_at_call 115; refine HLS1.out.mono ?_; rintro e w2 ⟨rfl, hX2⟩; have HX2 := hide hX2; have hml2 := mLess R w2 _ hX2.c7; clear hX2 hml HLS1; have hml := hml2; clear hml2)
              | (go_at_call 115; refine (HLS2.out _ HX2.out).mono ?_; rw [HLT.out]; rintro e w3 ⟨rfl, hX3⟩
                 have hms := mSwap R w3 _ hX3.c7
                 have HX3 := hide hX3
                 clear hX3 hml)
              | (go_at_call 116; refine (HSW2.out _ HX3.out).mono ?_; rintro e w4 ⟨rfl, los9, hX4⟩; have HX4 := hide hX4; clear hX4))
            go_roundw
            case rel =>
              refine ⟨j1, _, (H'.set q l).set j1 a, rfl, by simp; omega, by simp; omega, by simp; omega, HX4.out, ?_⟩
              rw [← HDN.out.1, HDN.out.2, if_pos HLT.out]
              exact downL_more _ _ _ _ _ (by omega) (by omega)
            case measure => simp [iv]; omega
          · have hls' : Los.less l a = false := by simpa using hls
            have HLT := hide (And.intro hls hls')
            clear hls hls'
            go_wp2_with (first
              | (go_at_call 115; refine HLS1.out.mono ?_; rintro e w2 ⟨rfl, hX2⟩; have HX2 := hide hX2; have hml2 := mLess R w2 _ hX2.c7; clear hX2 hml HLS1; have hml := hml2; clear hml2)
              | (go_at_call 115; refine (HLS2.out _ HX2.out).mono ?_; rw [HLT.out.2]; rintro e w3 ⟨rfl, hX3⟩
                 have HX3 := hide hX3
                 clear hX3 hml))
            go_ret
            exact ⟨_, H', q, by simp, HX3.out, by rw [← HDN.out.1, HDN.out.2, if_neg HLT.out.1]⟩
      · have hd2 : decide ((j2 : Int) < (n : Int)) = false := decide_eq_false (by omega)
        have hkid : kid H' q n = j1 := by
          unfold kid
          split
          · rw [if_neg (fun h => h2 (by omega))]; exact hj1
          · exact hj1
        have hde := downL_eq n H' q n (by omega) a l (by rw [hkid]; exact hl) ha
        rw [hkid] at hde
        have HDN := hide (And.intro hdn hde)
        have HAB := hide (And.intro ha hl)
        have hjq : q ≠ j1 := by omega
        have hjq' : q < j1 := by omega
        have hjl : j1 < H'.length := by omega
        have hjn : j1 < n := by omega
        have HX1m : Hid (UndoIs w0 wr R lg (.slice (some ⟨g, 0, none⟩) m c) vr H' O K) := by rw [← hm]; exact hX
        have HLS2 : Hid (∀ W, UndoIs w0 W R lg (.slice (some ⟨g, 0, none⟩) m c) vr H' O K → Calls Try.prog 115 #[.slice (some ⟨g, 0, none⟩) m c, .int .i64 (j1 : Nat), .int .i64 (q : Nat)] W fun e w' => e = .returned (.bool (Los.less l a)) ∧ UndoIs w0 w' R lg (.slice (some ⟨g, 0, none⟩) m c) vr H' O K) := fun W hW => by
          have z := lessU (H := H') (c := c) (by rw [HM.out]; exact hW) j1 q l a HAB.out.2 HAB.out.1
          rw [HM.out] at z
          exact z
        have HSW2 : Hid (∀ W, UndoIs w0 W R lg (.slice (some ⟨g, 0, none⟩) m c) vr H' O K → Calls Try.prog 116 #[.slice (some ⟨g, 0, none⟩) m c, .int .i64 (q : Nat), .int .i64 (j1 : Nat)] W fun e w' => e = .returned (.tuple #[]) ∧ ∃ los9, UndoIs w0 w' R lg los9 vr ((H'.set q l).set j1 a) O K) := fun W hW => by
          have z := swap_los (H := H') (c := c) (by rw [HM.out]; exact hW) q j1 a l HAB.out.1 HAB.out.2 hjq
          rw [HM.out] at z
          exact z.mono (fun e w' h => ⟨h.1, _, h.2⟩)
        clear hX hdn hde hkid hm ha hl
        by_cases hls : Los.less l a = true
        · have HLT := hide hls
          go_wp2_with (first
            | (go_at_call 115; refine (HLS2.out _ HX1m.out).mono ?_; rw [HLT.out]; rintro e w3 ⟨rfl, hX3⟩
               have hms := mSwap R w3 _ hX3.c7
               have HX3 := hide hX3
               clear hX3 hml)
            | (go_at_call 116; refine (HSW2.out _ HX3.out).mono ?_; rintro e w4 ⟨rfl, los9, hX4⟩; have HX4 := hide hX4; clear hX4))
          go_roundw
          case rel =>
            refine ⟨j1, _, (H'.set q l).set j1 a, rfl, by simp; omega, by simp; omega, by simp; omega, HX4.out, ?_⟩
            rw [← HDN.out.1, HDN.out.2, if_pos HLT.out]
            exact downL_more _ _ _ _ _ (by omega) (by omega)
          case measure => simp [iv]; omega
        · have hls' : Los.less l a = false := by simpa using hls
          have HLT := hide (And.intro hls hls')
          clear hls hls'
          go_wp2_with (first
            | (go_at_call 115; refine (HLS2.out _ HX1m.out).mono ?_; rw [HLT.out.2]; rintro e w3 ⟨rfl, hX3⟩
               have HX3 := hide hX3
               clear hX3 hml))
          go_ret
          exact ⟨_, H', q, by simp, HX3.out, by rw [← HDN.out.1, HDN.out.2, if_neg HLT.out.1]⟩
end
end Go.Proofs.Ytpjppolbkdnkaaa
namespace Go.Proofs.Ytpjppolbkdnkaaa
open Go.RowKit
set_option linter.unusedVariables false
set_option linter.unusedSimpArgs false

theorem swapL_perm (H : List Los) (i j : Nat) (a b : Los) (ha : H[i]? = some a) (hb : H[j]? = some b) : ((H.set i b).set j a).Perm H := by
  obtain ⟨hi, ea⟩ := List.getElem?_eq_some_iff.1 ha
  obtain ⟨hj, eb⟩ := List.getElem?_eq_some_iff.1 hb
  have h := Array.swap_perm (xs := H.toArray) (i := i) (j := j) (by simpa using hi) (by simpa using hj)
  have h := Array.perm_iff_toList_perm.1 h
  have e : (H.toArray.swap i j (by simpa using hi) (by simpa using hj)).toList = (H.set i b).set j a := by
    subst ea; subst eb
    simp [Array.swap]
  rw [e] at h
  exact h
theorem upL_perm : ∀ (k : Nat) (H : List Los) (j : Nat), (upL k H j).Perm H
  | 0, _, _ => List.Perm.refl _
  | k + 1, H, j => by
    cases hb : H[j]? with
    | none => simp [upL, hb]
    | some b =>
      cases ha : H[(j - 1) / 2]? with
      | none => simp [upL, hb, ha]
      | some a =>
        rw [upL_eq k H j a b hb ha]
        split
        · exact (upL_perm k _ _).trans (swapL_perm H _ _ a b ha hb)
        · exact List.Perm.refl _
theorem downL_perm : ∀ (k : Nat) (H : List Los) (i n : Nat), (downL k H i n).1.Perm H
  | 0, _, _, _ => List.Perm.refl _
  | k + 1, H, i, n => by
    by_cases h : 2 * i + 1 ≥ n
    · rw [downL_end k H i n h]
    · cases hb : H[kid H i n]? with
      | none => simp [downL, h, hb]
      | some b =>
        cases ha : H[i]? with
        | none => simp [downL, h, hb, ha]
        | some a =>
          rw [downL_eq k H i n h a b hb ha]
          split
          · exact (downL_perm k _ _ n).trans (swapL_perm H _ _ a b ha hb)
          · exact List.Perm.refl _
theorem kid_lt (H : List Los) (i n : Nat) (h : ¬ 2 * i + 1 ≥ n) : kid H i n < n := by
  unfold kid
  split
  · split
    · rename_i hc; exact hc.1
    · omega
  · omega
/-- What lies behind n stays. -/
theorem downL_past : ∀ (k : Nat) (H : List Los) (i n m : Nat), i < n → n ≤ m → (downL k H i n).1[m]? = H[m]?
  | 0, _, _, _, _, _, _ => rfl
  | k + 1, H, i, n, m, hi, hm => by
    by_cases h : 2 * i + 1 ≥ n
    · rw [downL_end k H i n h]
    · have hk := kid_lt H i n h
      cases hb : H[kid H i n]? with
      | none => simp [downL, h, hb]
      | some b =>
        cases ha : H[i]? with
        | none => simp [downL, h, hb, ha]
        | some a =>
          rw [downL_eq k H i n h a b hb ha]
          split
          · rw [downL_past k _ _ n m hk hm, List.getElem?_set_ne (by omega), List.getElem?_set_ne (by omega)]
          · rfl
def popL (H : List Los) : List Los := match H[0]?, H[H.length - 1]? with
  | some y, some z => if H.length = 1 then [] else ((downL H.length ((H.set 0 z).set (H.length - 1) y) 0 (H.length - 1)).1).take (H.length - 1)
  | _, _ => []
theorem popL_eq (H : List Los) (y z : Los) (hy : H[0]? = some y) (hz : H[H.length - 1]? = some z) (h1 : H.length ≠ 1) : popL H = ((downL H.length ((H.set 0 z).set (H.length - 1) y) 0 (H.length - 1)).1).take (H.length - 1) := by
  simp [popL, hy, hz, h1]
theorem popL_perm (y : Los) (T : List Los) : (popL (y :: T)).Perm T := by
  by_cases h1 : T = []
  · subst h1; simp [popL]
  · have hl : 0 < T.length := List.length_pos_iff.2 h1
    obtain ⟨z, hz⟩ : ∃ z, (y :: T)[(y :: T).length - 1]? = some z := ⟨_, List.getElem?_eq_getElem (by simp)⟩
    rw [popL_eq (y :: T) y z rfl hz (by simp; omega)]
    obtain ⟨m, hm⟩ : ∃ m, (y :: T).length - 1 = m := ⟨_, rfl⟩
    have hm1 : m = T.length := by rw [← hm]; simp
    rw [hm] at hz ⊢
    obtain ⟨H1, hH1⟩ : ∃ H1, ((y :: T).set 0 z).set m y = H1 := ⟨_, rfl⟩
    have hp1 : H1.Perm (y :: T) := by rw [← hH1]; exact swapL_perm (y :: T) 0 m y z rfl hz
    have hat : H1[m]? = some y := by rw [← hH1]; exact List.getElem?_set_self (by simp; omega)
    rw [hH1]
    obtain ⟨H2, hH2⟩ : ∃ H2, (downL (y :: T).length H1 0 m).1 = H2 := ⟨_, rfl⟩
    have hp2 : H2.Perm H1 := by rw [← hH2]; exact downL_perm _ _ _ _
    have hat2 : H2[m]? = some y := by rw [← hH2, downL_past _ _ _ _ _ (by omega) (Nat.le_refl _)]; exact hat
    rw [hH2]
    have hlen : H2.length = m + 1 := by rw [hp2.length_eq, hp1.length_eq]; simp; omega
    have hsplit : H2 = H2.take m ++ [y] := by
      have hlt : m < H2.length := by omega
      have hy := (List.getElem?_eq_some_iff.1 hat2).2
      conv => lhs; rw [← List.take_append_drop m H2, List.drop_eq_getElem_cons hlt, hy, List.drop_eq_nil_of_le (by omega)]
    have hp3 : (H2.take m ++ [y]).Perm (y :: T) := by rw [← hsplit]; exact hp2.trans hp1
    exact List.Perm.cons_inv ((List.perm_append_singleton y _).symm.trans hp3)
def fixL (H : List Los) : List Los := (downL (H.length + 1) H 0 H.length).1
def pushL (H : List Los) (y : Los) : List Los := upL (H.length + 1) (H ++ [y]) H.length
theorem fixL_perm (H : List Los) : (fixL H).Perm H := downL_perm _ _ _ _
theorem pushL_perm (H : List Los) (y : Los) : (pushL H y).Perm (y :: H) := (upL_perm _ _ _).trans (List.perm_append_singleton y H)
end Go.Proofs.Ytpjppolbkdnkaaa
namespace Go.Proofs.Ytpjppolbkdnkaaa
open Go.RowKit
set_option linter.unusedVariables false
set_option linter.unusedSimpArgs false

theorem nl_trans {a b c : Los} (h1 : c.less b = false) (h2 : b.less a = false) : c.less a = false := by
  unfold Los.less at *
  split at h1 <;> split at h2 <;> split <;> simp at * <;> omega
theorem less_nl {a b : Los} (h : b.less a = true) : a.less b = false := by
  unfold Los.less at *
  split at h <;> split <;> simp at * <;> omega
theorem less_self (a : Los) : a.less a = false := by simp [Los.less]
/-- No one of the first n goes ahead of its parent. -/
def IsHeap (H : List Los) (n : Nat) : Prop := ∀ (k : Nat) (a b : Los), 0 < k → k < n → H[k]? = some b → H[(k - 1) / 2]? = some a → b.less a = false
theorem IsHeap.best {H : List Los} {n : Nat} (h : IsHeap H n) (hn : n ≤ H.length) (y : Los) (hy : H[0]? = some y) : ∀ (k : Nat) (b : Los), k < n → H[k]? = some b → b.less y = false := by
  intro k
  induction k using Nat.strongRecOn with
  | ind k ih =>
    intro b hk hb
    by_cases h0 : k = 0
    · subst h0
      rw [hy] at hb; cases hb
      exact less_self _
    · obtain ⟨a, ha⟩ : ∃ a, H[(k - 1) / 2]? = some a := ⟨_, List.getElem?_eq_getElem (by omega)⟩
      exact nl_trans (h k a b (by omega) hk hb ha) (ih ((k - 1) / 2) (by omega) a (by omega) ha)
theorem swap_get (H : List Los) (i j : Nat) (a b : Los) (ha : H[i]? = some a) (hb : H[j]? = some b) (hij : i ≠ j) (k : Nat) : ((H.set i b).set j a)[k]? = if k = j then some a else if k = i then some b else H[k]? := by
  have hi := (List.getElem?_eq_some_iff.1 ha).1
  have hj := (List.getElem?_eq_some_iff.1 hb).1
  by_cases h1 : k = j
  · subst h1
    rw [if_pos rfl, List.getElem?_set_self (by rw [List.length_set]; exact hj)]
  · rw [if_neg h1, List.getElem?_set_ne (Ne.symm h1)]
    by_cases h2 : k = i
    · subst h2
      rw [if_pos rfl, List.getElem?_set_self hi]
    · rw [if_neg h2, List.getElem?_set_ne (Ne.symm h2)]
/-- All is well but at j, and j's children are not ahead of j's parent. -/
structure UpOk (H : List Los) (j : Nat) : Prop where
  pair : ∀ (k : Nat) (a b : Los), 0 < k → k ≠ j → H[k]? = some b → H[(k - 1) / 2]? = some a → b.less a = false
  kids : ∀ (k : Nat) (a b : Los), 0 < j → 0 < k → (k - 1) / 2 = j → H[k]? = some b → H[(j - 1) / 2]? = some a → b.less a = false
theorem upL_heap : ∀ (m : Nat) (H : List Los) (j : Nat), j < m → j < H.length → UpOk H j → IsHeap (upL m H j) H.length
  | 0, _, _, h, _, _ => by omega
  | m + 1, H, j, hm, hj, ok => by
    obtain ⟨b, hb⟩ : ∃ b, H[j]? = some b := ⟨_, List.getElem?_eq_getElem hj⟩
    obtain ⟨a, ha⟩ : ∃ a, H[(j - 1) / 2]? = some a := ⟨_, List.getElem?_eq_getElem (by omega)⟩
    rw [upL_eq m H j a b hb ha]
    by_cases hc : j ≠ 0 ∧ b.less a = true
    · rw [if_pos hc]
      obtain ⟨h0, hl⟩ := hc
      obtain ⟨i, hi⟩ : ∃ i, (j - 1) / 2 = i := ⟨_, rfl⟩
      rw [hi] at ha ⊢
      have hij : i ≠ j := by omega
      have hget := swap_get H i j a b ha hb hij
      have hlen : ((H.set i b).set j a).length = H.length := by simp
      have := upL_heap m ((H.set i b).set j a) i (by omega) (by rw [hlen]; omega) ⟨?_, ?_⟩
      · rwa [hlen] at this
      · intro k u v hk hki hv hu
        rw [hget] at hv hu
        by_cases hkj : k = j
        · subst hkj
          rw [if_pos rfl] at hv
          cases hv
          rw [hi, if_neg hij, if_pos rfl] at hu
          cases hu
          exact less_nl hl
        · rw [if_neg hkj, if_neg hki] at hv
          by_cases hp : (k - 1) / 2 = j
          · rw [if_pos hp] at hu
            cases hu
            exact ok.kids k a v (by omega) hk hp hv (by rw [hi]; exact ha)
          · rw [if_neg hp] at hu
            by_cases hpi : (k - 1) / 2 = i
            · rw [if_pos hpi] at hu
              cases hu
              exact nl_trans (ok.pair k a v hk hkj hv (by rw [hpi]; exact ha)) (less_nl hl)
            · rw [if_neg hpi] at hu
              exact ok.pair k u v hk hkj hv hu
      · intro k u v hi0 hk hp hv hu
        rw [hget] at hv hu
        rw [if_neg (by omega), if_neg (by omega)] at hu
        have hai := ok.pair i u a hi0 hij ha hu
        by_cases hkj : k = j
        · subst hkj
          rw [if_pos rfl] at hv
          cases hv
          exact hai
        · rw [if_neg hkj, if_neg (by omega)] at hv
          exact nl_trans (ok.pair k a v hk hkj hv (by rw [hp]; exact ha)) hai
    · rw [if_neg hc]
      intro k u v hk hkn hv hu
      by_cases hkj : k = j
      · subst hkj
        rw [hb] at hv; cases hv
        rw [ha] at hu; cases hu
        by_cases hl : b.less a = true
        · exact absurd ⟨by omega, hl⟩ hc
        · simpa using hl
      · exact ok.pair k u v hk hkj hv hu
theorem pushL_heap (H : List Los) (y : Los) (h : IsHeap H H.length) : IsHeap (pushL H y) (pushL H y).length := by
  have hl : (pushL H y).length = (H ++ [y]).length := by rw [(pushL_perm H y).length_eq]; simp
  rw [hl]
  refine upL_heap _ _ _ (by omega) (by simp) ⟨fun k a b hk hkj hb ha => ?_, fun k a b hj hk hp hb ha => ?_⟩
  · have hkl := (List.getElem?_eq_some_iff.1 hb).1
    simp at hkl
    have hkl' : k < H.length := by omega
    rw [List.getElem?_append_left hkl'] at hb
    rw [List.getElem?_append_left (by omega)] at ha
    exact h k a b hk hkl' hb ha
  · have hkl := (List.getElem?_eq_some_iff.1 hb).1
    simp at hkl
    omega
/-- The child that goes ahead is not behind the other. -/
theorem kid_best (H : List Los) (i n : Nat) (hn : n ≤ H.length) (hi : ¬ 2 * i + 1 ≥ n) (b : Los) (hb : H[kid H i n]? = some b) (s : Nat) (v : Los) (hs : s = 2 * i + 1 ∨ s = 2 * i + 2) (hsn : s < n) (hv : H[s]? = some v) : v.less b = false := by
  obtain ⟨l, hl⟩ : ∃ l, H[2 * i + 1]? = some l := ⟨_, List.getElem?_eq_getElem (by omega)⟩
  by_cases h2 : 2 * i + 2 < n
  · obtain ⟨r, hr⟩ : ∃ r, H[2 * i + 2]? = some r := ⟨_, List.getElem?_eq_getElem (by omega)⟩
    have hk : kid H i n = if r.less l = true then 2 * i + 2 else 2 * i + 1 := by unfold kid; rw [hr, hl]; simp only [h2, true_and]
    by_cases hrl : r.less l = true
    · rw [hk, if_pos hrl, hr] at hb
      cases hb
      rcases hs with rfl | rfl
      · rw [hl] at hv; cases hv; exact less_nl hrl
      · rw [hr] at hv; cases hv; exact less_self _
    · rw [hk, if_neg hrl, hl] at hb
      cases hb
      rcases hs with rfl | rfl
      · rw [hl] at hv; cases hv; exact less_self _
      · rw [hr] at hv; cases hv; simpa using hrl
  · have hk : kid H i n = 2 * i + 1 := by
      unfold kid
      split
      · rw [if_neg (fun h => h2 h.1)]
      · rfl
    rw [hk, hl] at hb
    cases hb
    rcases hs with rfl | rfl
    · rw [hl] at hv; cases hv; exact less_self _
    · omega
/-- All is well but below i, and i's children are not ahead of i's parent. -/
structure DownOk (H : List Los) (i n : Nat) : Prop where
  pair : ∀ (k : Nat) (a b : Los), 0 < k → k < n → (k - 1) / 2 ≠ i → H[k]? = some b → H[(k - 1) / 2]? = some a → b.less a = false
  kids : ∀ (k : Nat) (a b : Los), 0 < i → 0 < k → k < n → (k - 1) / 2 = i → H[k]? = some b → H[(i - 1) / 2]? = some a → b.less a = false
theorem downL_heap : ∀ (m : Nat) (H : List Los) (i n : Nat), n < i + m → n ≤ H.length → i < H.length → DownOk H i n → IsHeap (downL m H i n).1 n
  | 0, H, i, n, hm, hn, hi, ok => fun k a b hk hkn hb ha => ok.pair k a b hk hkn (by omega) hb ha
  | m + 1, H, i, n, hm, hn, hil, ok => by
    by_cases hend : 2 * i + 1 ≥ n
    · rw [downL_end m H i n hend]
      exact fun k a b hk hkn hb ha => ok.pair k a b hk hkn (by omega) hb ha
    · obtain ⟨c, hc⟩ : ∃ c, kid H i n = c := ⟨_, rfl⟩
      have hcc := kid_cases H i n
      have hcn := kid_lt H i n hend
      rw [hc] at hcc hcn
      obtain ⟨b, hb⟩ : ∃ b, H[c]? = some b := ⟨_, List.getElem?_eq_getElem (by omega)⟩
      obtain ⟨a, ha⟩ : ∃ a, H[i]? = some a := ⟨_, List.getElem?_eq_getElem hil⟩
      have hbest := kid_best H i n hn hend b (by rw [hc]; exact hb)
      rw [downL_eq m H i n hend a b (by rw [hc]; exact hb) ha, hc]
      by_cases hl : b.less a = true
      · rw [if_pos hl]
        have hic : i ≠ c := by omega
        have hget := swap_get H i c a b ha hb hic
        have hlen : ((H.set i b).set c a).length = H.length := by simp
        refine downL_heap m ((H.set i b).set c a) c n (by omega) (by rw [hlen]; exact hn) (by rw [hlen]; omega) ⟨?_, ?_⟩
        · intro k u v hk hkn hp hv hu
          rw [hget] at hv hu
          rw [if_neg hp] at hu
          by_cases hkc : k = c
          · rw [if_pos hkc] at hv
            cases hv
            rw [if_pos (by omega)] at hu
            cases hu
            exact less_nl hl
          · rw [if_neg hkc] at hv
            by_cases hki : k = i
            · rw [if_pos hki] at hv
              cases hv
              subst hki
              rw [if_neg (by omega)] at hu
              exact ok.kids c u b hk (by omega) hcn (by omega) hb hu
            · rw [if_neg hki] at hv
              by_cases hpi : (k - 1) / 2 = i
              · rw [if_pos hpi] at hu
                cases hu
                exact hbest k v (by omega) hkn hv
              · rw [if_neg hpi] at hu
                exact ok.pair k u v hk hkn hpi hv hu
        · intro k u v hc0 hk hkn hp hv hu
          rw [hget] at hv hu
          rw [if_neg (by omega), if_pos (by omega)] at hu
          cases hu
          rw [if_neg (by omega), if_neg (by omega)] at hv
          exact ok.pair k b v hk hkn (by omega) hv (by rw [hp]; exact hb)
      · rw [if_neg hl]
        intro k u v hk hkn hv hu
        by_cases hp : (k - 1) / 2 = i
        · rw [hp, ha] at hu
          cases hu
          exact nl_trans (hbest k v (by omega) hkn hv) (by simpa using hl)
        · exact ok.pair k u v hk hkn hp hv hu
theorem fixL_heap (y z : Los) (T : List Los) (h : IsHeap (y :: T) (y :: T).length) : IsHeap (fixL (z :: T)) (fixL (z :: T)).length := by
  rw [(fixL_perm (z :: T)).length_eq]
  refine downL_heap _ _ 0 _ (by omega) (Nat.le_refl _) (by simp) ⟨fun k a b hk hkn hp hb ha => ?_, fun k a b h0 => by omega⟩
  obtain ⟨k', rfl⟩ : ∃ k', k = k' + 1 := ⟨k - 1, by omega⟩
  obtain ⟨p, hp'⟩ : ∃ p, (k' + 1 - 1) / 2 = p + 1 := ⟨(k' + 1 - 1) / 2 - 1, by omega⟩
  rw [hp'] at ha
  exact h (k' + 1) a b hk hkn hb (by rw [hp']; exact ha)
theorem popL_heap (H : List Los) (h : IsHeap H H.length) (hne : H ≠ []) : IsHeap (popL H) (popL H).length := by
  match H, hne with
  | y :: T, _ =>
    have hpl := (popL_perm y T).length_eq
    rw [hpl]
    by_cases h1 : T = []
    · subst h1; intro k a b hk hkn; simp at hkn
    · have hl : 0 < T.length := List.length_pos_iff.2 h1
      obtain ⟨z, hz⟩ : ∃ z, (y :: T)[(y :: T).length - 1]? = some z := ⟨_, List.getElem?_eq_getElem (by simp)⟩
      rw [popL_eq (y :: T) y z rfl hz (by simp; omega)]
      obtain ⟨m, hm⟩ : ∃ m, (y :: T).length - 1 = m := ⟨_, rfl⟩
      have hm1 : m = T.length := by rw [← hm]; simp
      rw [hm] at hz ⊢
      have hget := swap_get (y :: T) 0 m y z rfl hz (by omega)
      have hh := downL_heap (y :: T).length (((y :: T).set 0 z).set m y) 0 m (by simp; omega) (by simp; omega) (by simp) ⟨fun k a b hk hkn hp hb ha => ?_, fun k a b h0 => by omega⟩
      · intro k a b hk hkn hb ha
        rw [List.getElem?_take_of_lt (by omega)] at hb ha
        exact hh k a b hk (by omega) hb ha
      · rw [hget] at hb ha
        rw [if_neg (by omega), if_neg (by omega)] at hb
        rw [if_neg (by omega), if_neg hp] at ha
        exact h k a b hk (by simp; omega) hb ha
end Go.Proofs.Ytpjppolbkdnkaaa
namespace Go.Proofs.Ytpjppolbkdnkaaa
open Go.RowKit
set_option linter.unusedVariables false
set_option linter.unusedSimpArgs false

section
variable {w0 w w' : World} {R : Nat} {lg : Sv} {los wr : Value} {H : List Los} {O : List Ln} {K : List (Nat × Obj)}
theorem losRow_take (H : List Los) (m : Nat) : (losRow H).take (m * 2) = losRow (H.take m) := by
  unfold losRow
  rw [List.flatMap_def, List.flatMap_def, flat_take 2 (H.map losCells) (fun y hy => by obtain ⟨z, _, rfl⟩ := List.mem_map.1 hy; rfl), List.map_take]
set_option maxHeartbeats 2000000 in
set_option maxRecDepth 100000 in
theorem pop_any {g c m : Nat} (x : UndoIs w0 w R lg (.slice (some ⟨g, 0, none⟩) H.length c) wr H O K) (hm : H.length = m + 1) (hc : m + 1 ≤ c) (hml : m ≤ 100000) :
    Calls Try.prog 117 #[.pointer (some ⟨R, 7, none⟩)] w fun e w' => (∃ v, e = .returned v) ∧ UndoIs w0 w' R lg (.slice (some ⟨g, 0, none⟩) (H.take m).length c) wr (H.take m) O K := by
  obtain ⟨y, hy⟩ : ∃ y, H[m]? = some y := ⟨_, List.getElem?_eq_getElem (by omega)⟩
  obtain ⟨d0, d1⟩ := los_cells x.heap m y hy
  obtain ⟨w1, hw1⟩ : ∃ w1, w.alloc (.cells #[.int .i64 y.id, .int .i64 y.next] 110) = w1 := ⟨_, rfl⟩
  have hB1 : Below w.heap.size w w1 := by rw [← hw1]; exact (Below.refl _ _).alloc (Nat.le_refl _) _
  have HX1 := hide (x.stayD hB1)
  have hG1 : w1.heap[w.heap.size]? = some (.cells #[.int .i64 y.id, .int .i64 y.next] 110 (0, 0)) := by rw [← hw1]; exact heap_alloc_new _ _
  have e0 : w1.cell? ⟨w.heap.size, 0, none⟩ = some (.int .i64 y.id) := by rw [cell_of_row _ _ _ _ _ _ hG1]; rfl
  have e1 : w1.cell? ⟨w.heap.size, 1, none⟩ = some (.int .i64 y.next) := by rw [cell_of_row _ _ _ _ _ _ hG1]; rfl
  have c7 := x.c7
  have c7' := HX1.out.c7
  have f7' := HX1.out.f7
  have hRne : w.heap.size ≠ R := by have := x.lt; omega
  have htl : (H.take m).length = m := by rw [List.length_take]; omega
  have HX2 := hide (HX1.out.setLos (.slice (some ⟨g, 0, none⟩) (H.take m).length c) (H.take m) (by
    obtain ⟨g', c', cur, e, h1, h2, h3, h4, h5, h6⟩ := own_some HX1.out.heap (by omega)
    injection e with q1 q2 q3
    injection q1 with q1
    injection q1 with q1 _
    subst q1; subst q3
    refine ⟨losRow_len _, .inr ⟨g, c, cur, rfl, h1, h2, by omega, h4, h5, ?_⟩⟩
    rw [htl, ← losRow_take, ← h6, List.take_take, Nat.min_eq_left (by omega)]) rfl)
  rw [htl] at HX2 ⊢
  rw [hm] at c7 c7'
  have HX2' := HX2
  clear x hB1 hG1 hy htl
  go_enter Try.func117, Try.ntmps117
  go_wp2
  go_ret
  exact ⟨⟨_, rfl⟩, HX2.out⟩
set_option maxHeartbeats 2000000 in
set_option maxRecDepth 100000 in
theorem heapPop_any (y : Los) (T : List Los) (hT : T.length ≤ 1000) : PopIs w0 R lg (y :: T) (popL (y :: T)) := by
  intro W los wr O K x
  obtain ⟨g, c, cur, hlos, _, _, hc, _⟩ := own_some x.heap (by simp)
  subst hlos
  by_cases h1 : T = []
  · subst h1
    refine (heapPop_one x (by simpa using hc)).mono ?_
    rintro e w' ⟨h1, h⟩
    exact ⟨h1, _, h⟩
  · have hl : 0 < T.length := List.length_pos_iff.2 h1
    obtain ⟨m, hm⟩ : ∃ m, T.length = m := ⟨_, rfl⟩
    have hlen : (y :: T).length = m + 1 := by simp; omega
    obtain ⟨z, hz⟩ : ∃ z, (y :: T)[m]? = some z := ⟨_, List.getElem?_eq_getElem (by omega)⟩
    have hpop := popL_eq (y :: T) y z rfl (by rw [hlen]; exact hz) (by omega)
    rw [hlen] at hpop
    have hpop : popL (y :: T) = (downL (m + 1) (((y :: T).set 0 z).set m y) 0 m).1.take m := hpop
    have HPL := hide hpop
    have HX := hide x
    have hml := mLen R W _ x.c7
    have HMS := hide (mSwap R W _ x.c7)
    have HMP := hide (mPop ⟨R, 7, none⟩)
    have HSW := hide (swap_los x 0 m y z rfl hz (by omega))
    rw [hlen] at hml HMS
    have hlen2 : (((y :: T).set 0 z).set m y).length = m + 1 := by simp; omega
    have HDN : Hid (∀ W' los', UndoIs w0 W' R lg los' wr (((y :: T).set 0 z).set m y) O K → Calls Try.prog 79 #[.iface 108 (.pointer (some ⟨R, 7, none⟩)), .int .i64 ((0 : Nat) : Int), .int .i64 (m : Int)] W' fun e w' => ∃ los' H' q, e = .returned (.bool (decide (0 < q))) ∧ UndoIs w0 w' R lg los' wr H' O K ∧ (H', q) = downL (m + 1) (((y :: T).set 0 z).set m y) 0 m) := fun W' los' hx => down_any hx 0 m (by omega) (by omega) (by omega)
    have HL := hide (And.intro hlen hlen2)
    rw [hlen] at HSW
    have hm1 : m ≤ 1000 := by omega
    clear x hpop hz h1 hl hm hT hlen hlen2 hc
    go_enter Try.func60, Try.ntmps60
    go_wp2_with (first
      | (go_at_call 114; refine (len_los (some ⟨g, 0, none⟩) (m + 1) c W).mono ?_; rintro e w' ⟨rfl, hw⟩; have hw := hw.symm; subst hw; clear hml; have hms := HMS.out)
      | (go_at_call 116; refine HSW.out.mono ?_; rintro e w2 ⟨rfl, hX2⟩; have HX2 := hide hX2; clear hX2 hms; have hmp := HMP.out)
      | (go_at_call 79; refine (HDN.out _ _ HX2.out).mono ?_; rintro e w3 ⟨los3, H3, q3, rfl, hX3, hq3⟩
         have hl3 : H3.length = m + 1 := by
           have := (downL_perm (m + 1) (((y :: T).set 0 z).set m y) 0 m).length_eq
           rw [← hq3] at this
           exact this.trans HL.out.2
         obtain ⟨g3, c3, cur3, hlos3, _, _, hc3, _⟩ := own_some hX3.heap (by omega)
         subst hlos3
         have HPO := hide (pop_any hX3 hl3 (by omega) (by omega))
         have HQ3 := hide hq3
         clear hX3 hq3 hl3 hc3)
      | (go_at_call 117; refine HPO.out.mono ?_; rintro e w4 ⟨⟨v, rfl⟩, hX4⟩; have HX4 := hide hX4; clear hX4))
    go_ret
    rw [HPL.out, ← HQ3.out]
    exact ⟨⟨_, rfl⟩, _, HX4.out⟩
set_option maxHeartbeats 2000000 in
set_option maxRecDepth 100000 in
theorem heapFix_any (y : Los) (T : List Los) (hT : T.length ≤ 1000) : FixIs w0 R lg (y :: T) (fixL (y :: T)) := by
  intro W los wr O K x
  obtain ⟨g, c, cur, hlos, _, _, hc, _⟩ := own_some x.heap (by simp)
  subst hlos
  obtain ⟨m, hm⟩ : ∃ m, (y :: T).length = m := ⟨_, rfl⟩
  have HM := hide hm
  have hm1 : m ≤ 1001 := by rw [← hm]; simp; omega
  have hml := mLen R W _ x.c7
  have HDN := hide (down_any x 0 m (by omega) (by simp) (by omega))
  have HUP := hide (fun W => up_zero (.iface 108 (.pointer (some ⟨R, 7, none⟩))) W)
  rw [hm] at hml
  clear x hm hc hT
  go_enter Try.func61, Try.ntmps61
  go_wp2_with (first
    | (go_at_call 114; refine (len_los (some ⟨g, 0, none⟩) m c W).mono ?_; rintro e w' ⟨rfl, hw⟩; have hw := hw.symm; subst hw)
    | (go_at_call 79; refine HDN.out.mono ?_; rintro e w2 ⟨los2, H2, q2, rfl, hX2, hq2⟩; have HX2 := hide hX2; have HQ2 := hide hq2; clear hX2 hq2; cases hdq : decide (0 < q2))
    | (go_at_call 74; refine (HUP.out _).mono ?_; rintro e w3 ⟨rfl, hb3⟩; have HB3 := hide hb3; clear hb3))
  · go_end0
    have e : fixL (y :: T) = H2 := by unfold fixL; rw [HM.out, ← HQ2.out]
    rw [e]
    exact ⟨rfl, _, HX2.out.stayD HB3.out⟩
  · go_end0
    have e : fixL (y :: T) = H2 := by unfold fixL; rw [HM.out, ← HQ2.out]
    rw [e]
    exact ⟨rfl, _, HX2.out⟩
set_option maxHeartbeats 2000000 in
set_option maxRecDepth 100000 in
theorem heapPush_any (H : List Los) (y : Los) (hH : H.length ≤ 1000) : PushIs w0 R lg H y (pushL H y) := by
  intro W los wr O K x
  have HP := hide (push_any x y (by omega))
  have hmp := mPush ⟨R, 7, none⟩
  have HML := hide (fun W v h => mLen R W v h)
  obtain ⟨m, hm⟩ : ∃ m, H.length = m := ⟨_, rfl⟩
  have HM := hide hm
  have HUP : Hid (∀ W' los', UndoIs w0 W' R lg los' wr (H ++ [y]) O K → Calls Try.prog 74 #[.iface 108 (.pointer (some ⟨R, 7, none⟩)), .int .i64 (m : Int)] W' fun e w' => e = .returned (.tuple #[]) ∧ ∃ los' H', UndoIs w0 w' R lg los' wr H' O K ∧ H' = upL (m + 1) (H ++ [y]) m) := fun W' los' hx => up_any hx m (by simp; omega) (by simp; omega)
  rw [hm] at HP
  have hm1 : m ≤ 1000 := by omega
  clear x hm hH
  go_enter Try.func51, Try.ntmps51
  go_wp2_with (first
    | (go_at_call 118; refine HP.out.mono ?_; rintro e w2 ⟨rfl, ao, c, hX2⟩; have HX2 := hide hX2; have hml := HML.out w2 _ hX2.c7; clear hX2 hmp)
    | (go_at_call 114; refine (len_los ao (m + 1) c w2).mono ?_; rintro e w' ⟨rfl, hw⟩; have hw := hw.symm; subst hw)
    | (go_at_call 74; refine (HUP.out _ _ HX2.out).mono ?_; rintro e w3 ⟨rfl, los3, H3, hX3, hH3⟩; have HX3 := hide hX3; have HH3 := hide hH3; clear hX3 hH3))
  go_end0
  refine ⟨rfl, los3, ?_⟩
  have e : pushL H y = H3 := by unfold pushL; rw [HM.out]; exact HH3.out.symm
  rw [e]
  exact HX3.out
end
/-- The heap's calls, up to 1000 losers. -/
def hpAll (w0 : World) (R : Nat) (lg : Sv) (N : Nat) (hN : N ≤ 1000) : Hp w0 R lg N where
  pushL := pushL
  popL := popL
  fixL := fixL
  pushP := pushL_perm
  popP := popL_perm
  fixP := fixL_perm
  push := fun H y h => heapPush_any H y (by omega)
  pop := fun y T h => heapPop_any y T (by omega)
  fix := fun y T h => heapFix_any y T (by omega)
end Go.Proofs.Ytpjppolbkdnkaaa
