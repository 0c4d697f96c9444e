/- A part of it: DSorts DValsT DCollT DSortedT DAnalyze DSortN. -/
import Derived.Test.YteeembildppgmaaGreatM33
import Derived.Maps.RangeWalk
import Derived.Shelf.SlSortCmp.NoneTotal
namespace Go.Proofs.YteeembildppgmaaGreat.Rd
open Go.RowKit
set_option linter.unusedVariables false
set_option linter.unusedSimpArgs false
set_option maxRecDepth 100000
open Go.Sort hiding Below
def encD (x : Int × Int) : List Value := [.int .i64 x.1, .int .i64 x.2]
set_option maxHeartbeats 1000000 in
theorem less_any (x y : Int × Int) (W : World) : Calls Tryz.prog 137 #[.agg #[.int .i64 x.1, .int .i64 x.2], .agg #[.int .i64 y.1, .int .i64 y.2]] W fun e w' => e = .returned (.int .i64 (Lib.compareInt x.1 y.1)) ∧ ∃ q os', w' = grow (W.drewN q) os' := by
 have hcon := fun W' => AnyG.cmp_Compare_int Tryz.cmpInt x.1 y.1 W'
 change ∀ W', Calls Tryz.prog 119 _ _ _ at hcon
 generalize Lib.compareInt x.1 y.1 = r at hcon ⊢
 go_enter Tryz.func137, Tryz.ntmps137
 go_wp2_with (go_at_call 119; refine (hcon _).mono ?_; rintro e w' ⟨rfl, rfl⟩)
 go_ret
 exact ⟨rfl, 0, _, by rw [alloc_eq_grow, alloc_eq_grow, grow_grow]; rfl⟩
theorem len_any (n : Nat) (W : World) (h : n ≤ 12) : Calls Tryz.prog 147 #[.int .u64 n] W fun e w' => (∃ l : Int, e = .returned (.int .i64 l)) ∧ w' = W :=
 (Any.bits_Len Tryz.bitsLen n W (by omega) (by omega)).mono fun _ _ ⟨he, hw⟩ => ⟨⟨_, he⟩, hw⟩
theorem swoD : SWO (ltOf fun x y : Int × Int => Lib.compareInt x.1 y.1) := by
 have key : ∀ x y : Int × Int, ltOf (fun x y : Int × Int => Lib.compareInt x.1 y.1) x y = decide (x.1 < y.1) := fun x y => by
  simp only [ltOf, Lib.compareInt]
  split
  · simp [*]
  · split
    · simp [*]
    · simp [*]
 refine ⟨fun x => by rw [key]; simp, fun x y z h1 h2 => ?_, fun x y z h1 h2 => ?_⟩
 · rw [key] at h1 h2 ⊢; simp at h1 h2 ⊢; omega
 · rw [key] at h1 h2 ⊢; simp at h1 h2 ⊢; omega
theorem ltD (x y : Int × Int) : ltOf (fun x y : Int × Int => Lib.compareInt x.1 y.1) x y = decide (x.1 < y.1) := by
 simp only [ltOf, Lib.compareInt]
 split
 · simp [*]
 · split
   · simp [*]
   · simp [*]
theorem off_sort (w : World) (g off m : Nat) (d : Array (Int × Int)) (os : Array Obj) : Off [g] w (sortWorldK encD 2 w g off m d os) := by
 refine ⟨rfl, rfl, rfl, ?_, fun k hk hn => ?_⟩
 · simp [sortWorldK, grow, putRowK, putRow, mapBlock, Go.Sort.ahead]
 · have hne : ¬ g = k := fun e => hn (by simp [e])
   simp [sortWorldK, grow, putRowK, putRow, mapBlock, Go.Sort.ahead, Array.getElem?_append, hk, Array.getElem_modify, hne]
theorem sort_any (g cap : Nat) (d : Array (Int × Int)) (w : World) (hH : HoldsK encD 2 w g 0 d) (hg : g < w.heap.size) (h12 : d.size ≤ 12) :
 Calls Tryz.prog 117 #[.slice (some ⟨g, 0, none⟩) d.size cap, .func (.func 137) #[] #[]] w fun e w' => e = .returned (.tuple #[]) ∧ ∃ d' : Array (Int × Int), d'.toList.Perm d.toList ∧ d'.size = d.size ∧ d'.toList.Pairwise (fun x y => x.1 ≤ y.1) ∧ HoldsK encD 2 w' g 0 d' ∧ Off [g] w w' := by
 have eg : ∀ args w, (callFunc 137 args).run Tryz.prog w = .ok (.enter 137 args) w := enters_of Tryz.func137 (by kernel_rfl) rfl
 have hcmp : CmpLays Tryz.prog 137 #[] encD 2 (fun x y => Lib.compareInt x.1 y.1) g 0 d.size w := fun _ _ _ _ x y => less_any x y _
 have hcon := AnyQ.slices_SortFunc_small_sorted Tryz.sortD 2 Tryz.isAgg142 Tryz.sizeOf142 encD (fun _ => rfl) (fun x v hv => by simp [encD] at hv; rcases hv with rfl | rfl <;> rfl) (fun x y => Lib.compareInt x.1 y.1) 137 #[] swoD g 0 cap d w eg hcmp hH hg h12 len_any
 change Calls Tryz.prog 117 _ _ _ at hcon
 refine hcon.mono ?_
 rintro e w' ⟨rfl, d', n, os, hp, hs, rfl⟩
 obtain ⟨hp1, hp2, hp3⟩ := hp
 refine ⟨rfl, d', ?_, hp1, ?_, ?_, off_sort w g 0 n d' os⟩
 · have e1 : d'.extract 0 d.size = d' := by rw [← hp1]; simp
   have e2 : d.extract 0 d.size = d := by simp
   rw [e1, e2] at hp3
   exact hp3
 · rw [List.pairwise_iff_getElem]
   intro i j hi hj hij
   have := hs i j (Nat.zero_le _) hij (by rw [← hp1]; simpa using hj)
   rw [ltD, getElem!_pos d' j (by simpa using hj), getElem!_pos d' i (by simpa using hi)] at this
   simpa using this
 · have hb : g < (putRowK encD 2 (Go.Sort.ahead w n) g 0 d').heap.size := by
    have : (putRowK encD 2 (Go.Sort.ahead w n) g 0 d').heap.size = w.heap.size := by simp [putRowK, putRow, mapBlock, Go.Sort.ahead]
    omega
   exact holdsK_grow encD 2 _ _ _ _ _ hb (holdsK_putRowK encD 2 _ _ _ d d' (holdsK_ahead encD 2 _ _ _ _ _ hH) hp1)
set_option maxHeartbeats 1000000 in
theorem lessT_any (x y : Tx) (W : World) : Calls Tryz.prog 140 #[.agg #[.int .i64 x.id, .int .i64 x.last, .int .i64 x.st], .agg #[.int .i64 y.id, .int .i64 y.last, .int .i64 y.st]] W fun e w' => e = .returned (.int .i64 (Lib.compareInt x.id y.id)) ∧ ∃ q os', w' = grow (W.drewN q) os' := by
 have hcon := fun W' => AnyG.cmp_Compare_int Tryz.cmpInt x.id y.id W'
 change ∀ W', Calls Tryz.prog 119 _ _ _ at hcon
 generalize Lib.compareInt x.id y.id = r at hcon ⊢
 go_enter Tryz.func140, Tryz.ntmps140
 go_wp2_with (go_at_call 119; refine (hcon _).mono ?_; rintro e w' ⟨rfl, rfl⟩)
 go_ret
 exact ⟨rfl, 0, _, by rw [alloc_eq_grow, alloc_eq_grow, grow_grow]; rfl⟩
theorem swoT : SWO (ltOf fun x y : Tx => Lib.compareInt x.id y.id) := by
 have key : ∀ x y : Tx, ltOf (fun x y : Tx => Lib.compareInt x.id y.id) x y = decide (x.id < y.id) := fun x y => by
  simp only [ltOf, Lib.compareInt]
  split
  · simp [*]
  · split
    · simp [*]
    · simp [*]
 refine ⟨fun x => by rw [key]; simp, fun x y z h1 h2 => ?_, fun x y z h1 h2 => ?_⟩
 · rw [key] at h1 h2 ⊢; simp at h1 h2 ⊢; omega
 · rw [key] at h1 h2 ⊢; simp at h1 h2 ⊢; omega
theorem ltT (x y : Tx) : ltOf (fun x y : Tx => Lib.compareInt x.id y.id) x y = decide (x.id < y.id) := by
 simp only [ltOf, Lib.compareInt]
 split
 · simp [*]
 · split
   · simp [*]
   · simp [*]
section
variable [Inhabited Tx]
theorem offT_sort (w : World) (g off m : Nat) (d : Array (Tx)) (os : Array Obj) : Off [g] w (sortWorldK txCells 3 w g off m d os) := by
 refine ⟨rfl, rfl, rfl, ?_, fun k hk hn => ?_⟩
 · simp [sortWorldK, grow, putRowK, putRow, mapBlock, Go.Sort.ahead]
 · have hne : ¬ g = k := fun e => hn (by simp [e])
   simp [sortWorldK, grow, putRowK, putRow, mapBlock, Go.Sort.ahead, Array.getElem?_append, hk, Array.getElem_modify, hne]
theorem sortT_any (g cap : Nat) (d : Array (Tx)) (w : World) (hH : HoldsK txCells 3 w g 0 d) (hg : g < w.heap.size) (h12 : d.size ≤ 12) :
 Calls Tryz.prog 162 #[.slice (some ⟨g, 0, none⟩) d.size cap, .func (.func 140) #[] #[]] w fun e w' => e = .returned (.tuple #[]) ∧ ∃ d' : Array (Tx), d'.toList.Perm d.toList ∧ d'.size = d.size ∧ d'.toList.Pairwise (fun x y => x.id ≤ y.id) ∧ HoldsK txCells 3 w' g 0 d' ∧ Off [g] w w' := by
 have eg : ∀ args w, (callFunc 140 args).run Tryz.prog w = .ok (.enter 140 args) w := enters_of Tryz.func140 (by kernel_rfl) rfl
 have hcmp : CmpLays Tryz.prog 140 #[] txCells 3 (fun x y => Lib.compareInt x.id y.id) g 0 d.size w := fun _ _ _ _ x y => lessT_any x y _
 have hcon := AnyQ.slices_SortFunc_small_sorted Tryz.sortT 3 Tryz.isAgg140 Tryz.sizeOf140 txCells (fun _ => rfl) (fun x v hv => by simp [txCells] at hv; rcases hv with rfl | rfl | rfl <;> rfl) (fun x y => Lib.compareInt x.id y.id) 140 #[] swoT g 0 cap d w eg hcmp hH hg h12 len_any
 change Calls Tryz.prog 162 _ _ _ at hcon
 refine hcon.mono ?_
 rintro e w' ⟨rfl, d', n, os, hp, hs, rfl⟩
 obtain ⟨hp1, hp2, hp3⟩ := hp
 refine ⟨rfl, d', ?_, hp1, ?_, ?_, offT_sort w g 0 n d' os⟩
 · have e1 : d'.extract 0 d.size = d' := by rw [← hp1]; simp
   have e2 : d.extract 0 d.size = d := by simp
   rw [e1, e2] at hp3
   exact hp3
 · rw [List.pairwise_iff_getElem]
   intro i j hi hj hij
   have := hs i j (Nat.zero_le _) hij (by rw [← hp1]; simpa using hj)
   rw [ltT, getElem!_pos d' j (by simpa using hj), getElem!_pos d' i (by simpa using hi)] at this
   simpa using this
 · have hb : g < (putRowK txCells 3 (Go.Sort.ahead w n) g 0 d').heap.size := by
    have : (putRowK txCells 3 (Go.Sort.ahead w n) g 0 d').heap.size = w.heap.size := by simp [putRowK, putRow, mapBlock, Go.Sort.ahead]
    omega
   exact holdsK_grow txCells 3 _ _ _ _ _ hb (holdsK_putRowK txCells 3 _ _ _ d d' (holdsK_ahead txCells 3 _ _ _ _ _ hH) hp1)
end
end Go.Proofs.YteeembildppgmaaGreat.Rd
namespace Go.Proofs.YteeembildppgmaaGreat.Rd
open Go.RowKit Go.Maps Go.Sort Go.Shelf
set_option linter.unusedVariables false
set_option linter.unusedSimpArgs false
set_option maxRecDepth 100000
attribute [local go_sem] Oper.semAt_some
def encT (x : Tx) : Value := .agg (txCells x).toArray
def CameT (f : Int → Option Tx) (left : Lit → Bool) (ks : List Int) (ss : List Tx) : Prop :=
 ks.Nodup ∧ ks.map f = ss.map some ∧ (∀ k ∈ ks, In64 k ∧ left (.int .i64 k) = false) ∧ (∀ k, In64 k → (f k).isSome = true → left (.int .i64 k) = false → k ∈ ks)
def ValsT (f : Int → Option Tx) (ss : List Tx) : Prop :=
 ∃ ks : List Int, ks.Nodup ∧ ks.map f = ss.map some ∧ (∀ k ∈ ks, In64 k) ∧ (∀ k, In64 k → (f k).isSome = true → k ∈ ks)

set_option maxRecDepth 100000 in
set_option maxHeartbeats 1000000 in
theorem values1T_in (F : Fence) (n : Nat) (h10 : F.fn 163) (hro : F.round = none) (hn : 1 ≤ n) (l Bm b nn : Nat) (D0 : DataW Tx) (f : Int → Option Tx) (J Jx : List Tx → World → Prop)
 (hf : ∀ k, In64 k → Maps.has D0 (.int .i64 k) = (f k).isSome ∧ D0.atKey (.int .i64 k) (.held Tx.zero) = .held ((f k).getD Tx.zero))
 (hY : ∀ pre x W, J pre W → pre.length < Maps.size D0 → YieldAt F (n - 1) Tryz.prog l #[encT x] W fun e W' => (e = .returned (.bool true) ∧ J (pre ++ [x]) W' ∧ KeepsWalks W W') ∨ (e = .returned (.bool false) ∧ Jx (pre ++ [x]) W'))
 (W : World) (hJ : AbidesFrom W.heap.size J) (hm : W.cell? ⟨Bm, 0, none⟩ = some (.map (some b))) (hown : W.ownsMap Tryz.prog 3 rT b nn D0) (h0 : J [] W) :
 CallsIn F n Tryz.prog 163 #[.func (.yield l) #[] #[], .pointer (some ⟨Bm, 0, none⟩)] W fun e W' => (∃ v, e = .returned v) ∧ ((∃ ss : List Tx, ValsT f ss ∧ J ss W') ∨ (∃ pre : List Tx, True ∧ Jx pre W')) := by
 refine callsIn_of_wp Tryz.func163 rfl h10 ?_ hro
 simp only [Tryz.ntmps163, List.size_toArray, List.length_cons, List.length_nil, Nat.reduceAdd, Nat.reduceSub, Array.replicate_succ, Array.replicate_zero, List.push_toArray, List.append_toArray, List.nil_append, List.cons_append]
 gi_wp2_with (first
  | (gi_at_range; refine wpListIn_range_own _ rfl _ 193 rfl 3 140 keyedI Tryz.underlying193 _ b nn _ rfl hown ?_; intro w0 hrg0 hg0 hs0)
  | gi_in)
 go_frame
 gi_loopw [4] (fun _ wr => ∃ (left : Lit → Bool) (cnt : Nat) (ks : List Int) (ss : List Tx), wr.ranges Tryz.prog 3 rT b W.heap.size nn D0 left cnt ∧ ss.length + cnt ≤ Maps.size D0 ∧ CameT f left ks ss ∧ J ss wr)
  (fun _ wr => wr.rangeLeft b W.heap.size)
 case atStart =>
  refine ⟨_, _, [], [], hrg0, by simp, ⟨List.nodup_nil, rfl, by simp, fun k hk hfk hl => ?_⟩, hJ [] W w0 none h0 hg0 (fun r e => by cases e)⟩
  rw [(hf k hk).1, hfk] at hl
  exact absurd hl (by simp)
 case round =>
  obtain ⟨left, cnt, ks, ss, hrg, hcs, hC, hJs⟩ := hrel
  gi_wp2_with (first
   | (gi_at_next; refine wpListIn_next_ranges _ rfl _ rfl 3 keyedI rT encZ encT (fun key kl hk => by obtain ⟨x, hx, _⟩ := Maps.keyOf_i64 Tryz.underlying3 hk; exact ⟨x, hx⟩) (fun v y hv => by obtain ⟨y1, y2⟩ := y; obtain ⟨c, rfl, _⟩ := rT_inv hv; exact ⟨c, rfl⟩) b W.heap.size nn _ _ _ rfl hrg ?_ ?_)
   | gi_in)
  · intro hc0 hl0
    gi_wp2
    go_end0
    exact ⟨⟨_, rfl⟩, .inl ⟨ss, ⟨ks, hC.1, hC.2.1, fun k hk => (hC.2.2.1 k hk).1, fun k hk hfk => hC.2.2.2 k hk hfk (hl0 _)⟩, hJs⟩⟩
  · intro x c kl yd yp w2 cnt2 hkey hlk hv hat hrg2 hlt hg2 hs2 hen
    obtain ⟨x', ex, rfl, hwf⟩ := Maps.keyOf_i64 Tryz.underlying3 hkey
    obtain rfl : x = x' := encZ_inj ex
    have hJ2 : J ss w2 := hJ ss wr w2 (some W.heap.size) hJs hg2 (fun r e => by cases e; exact ⟨Nat.le_refl _, hrg.iter_walk⟩)
    have hx64 : In64 x := in64 hwf
    have hfx : f x = some c := by
     obtain ⟨a1, a2⟩ := hf x hx64
     have hyd : yd = .held c := by
      rw [show rT (encT c) = some (.held c, []) from rT_mk c] at hv
      injection hv with hv
      exact (congrArg Prod.fst hv).symm
     rw [hat, hyd] at a2
     have a4 : c = (f x).getD Tx.zero := by injection a2
     rw [has_true_of_atKey hat] at a1
     cases hfx : f x with
     | none => rw [hfx] at a1; exact absurd a1 (by simp)
     | some y => rw [hfx] at a4; exact congrArg some a4.symm
    clear hs2
    obtain ⟨w3, hw3⟩ : ∃ w3, w2.alloc (.cells (txCells c).toArray 140) = w3 := ⟨_, rfl⟩
    have hJ3 : J ss w3 := hJ ss w2 w3 none hJ2 (by rw [← hw3]; exact World.grownBy_alloc _ _ _) (fun r e => by cases e)
    obtain ⟨fn, tmps, assign, body, hy, hR⟩ := hY ss c w3 hJ3 (by omega)
    have hkw : KeepsWalks w2 w3 := by rw [← hw3]; exact KeepsWalks.alloc _ _
    have hG3 : w3.heap[w2.heap.size]? = some (.cells (txCells c).toArray 140 (0, 0)) := by rw [← hw3]; exact heap_alloc_new _ _
    have d0 : w3.cell? ⟨w2.heap.size, 0, none⟩ = some (.int .i64 c.id) := by rw [cell_of_row _ _ _ _ _ _ hG3]; rfl
    have d1 : w3.cell? ⟨w2.heap.size, 1, none⟩ = some (.int .i64 c.last) := by rw [cell_of_row _ _ _ _ _ _ hG3]; rfl
    have d2 : w3.cell? ⟨w2.heap.size, 2, none⟩ = some (.int .i64 c.st) := by rw [cell_of_row _ _ _ _ _ _ hG3]; rfl
    simp only [encT, txCells] at hen hy hw3 ⊢
    gi_wp2
    refine hR.mono ?_
    rintro e W3 (⟨rfl, hJ4, hk3⟩ | ⟨rfl, hJ4⟩)
    · gi_wp2
      have hrg3 := hrg2.of_walks (hkw.trans hk3)
      go_roundw
      case rel =>
       refine ⟨_, cnt2, ks ++ [x], ss ++ [c], hrg3, by simp; omega, ⟨?_, ?_, ?_, ?_⟩, hJ4⟩
       · refine List.nodup_append.2 ⟨hC.1, by simp, fun a ha b hb => ?_⟩
         simp at hb; subst hb
         intro e; subst e
         have := (hC.2.2.1 _ ha).2
         rw [hlk] at this; cases this
       · rw [List.map_append, List.map_append, hC.2.1]; simp [hfx]
       · intro k hk
         rcases List.mem_append.1 hk with h | h
         · exact ⟨(hC.2.2.1 k h).1, by simp [(hC.2.2.1 k h).2]⟩
         · simp at h; subst h; exact ⟨hx64, by simp [Lit.sameKey]⟩
       · intro k hk hfk hl
         by_cases e : k = x
         · subst e; simp
         · exact List.mem_append.2 (.inl (hC.2.2.2 k hk hfk (by simpa [e, Lit.sameKey] using hl)))
      case measure => rw [hrg3.left_eq, hrg.left_eq]; exact hlt
    · gi_wp2
      refine bodyPost_ret (results_none rfl _ _ _) rfl ?_
      exact ⟨⟨_, rfl⟩, .inr ⟨_, trivial, hJ4⟩⟩
theorem valuesT_stops (F : Fence) (n : Nat) (h : F.fn 163) (hro : F.round = none) (hn : 1 ≤ n) (Bm b nn : Nat) (f : Int → Option Tx) (D0 : DataW Tx) (w : World) (hBm : w.heap[Bm]? = some (.cells #[.map (some b)] 193 (0, 0))) (hown : w.ownsMap Tryz.prog 3 rT b nn D0)
 (hf : ∀ k, In64 k → Maps.has D0 (.int .i64 k) = (f k).isSome ∧ D0.atKey (.int .i64 k) (.held Tx.zero) = .held ((f k).getD Tx.zero)) :
 SeqStopsK F n Tryz.prog 163 #[.pointer (some ⟨Bm, 0, none⟩)] (fun x : Tx => #[encT x]) KeepsWalks (ValsT f) (fun _ => True) (Maps.size D0) w := fun l J Jx W hW hJ _ hY h0 => by
 have hlt := hown.lt
 have hown' : W.ownsMap Tryz.prog 3 rT b nn D0 := by
  obtain ⟨es, clock, hb, Ft, hs, hD⟩ := hown
  exact ⟨es, clock, (hW.block b hlt).trans hb, Ft, hs, hD⟩
 have e := (hW.block Bm (Array.getElem?_eq_some_iff.1 hBm).1).trans hBm
 exact values1T_in F n h hro hn l Bm b nn D0 f J Jx hf hY W hJ (cell_of_box_a e).1 hown' h0
set_option maxHeartbeats 1000000 in
theorem valuesT_in (F : Fence) (n : Nat) (h7 : F.fn 139) (hro : F.round = none) (mb : Option Nat) (w : World) :
 CallsIn F n Tryz.prog 139 #[.map mb] w fun e w' => e = .returned (.func (.func 163) #[] #[.pointer (some ⟨w.heap.size, 0, none⟩)]) ∧ w' = w.alloc (.cells #[.map mb] 193) := by
 refine callsIn_of_wp Tryz.func139 rfl h7 ?_ hro
 simp only [Tryz.ntmps139, List.size_toArray, List.length_cons, List.length_nil, Nat.reduceAdd, Nat.reduceSub, Array.replicate_succ, Array.replicate_zero, List.push_toArray, List.append_toArray, List.nil_append, List.cons_append]
 gi_wp2
 go_ret
 exact ⟨rfl, rfl⟩
theorem valuesT_any (b : Nat) (w : World) : Calls Tryz.prog 139 #[.map (some b)] w fun e w' => e = .returned (.func (.func 163) #[] #[.pointer (some ⟨w.heap.size, 0, none⟩)]) ∧ w' = w.alloc (.cells #[.map (some b)] 193) :=
 (callsIn_wide (n := 6)).1 (valuesT_in Fence.wide 6 trivial rfl (some b) w)
end Go.Proofs.YteeembildppgmaaGreat.Rd
namespace Go.Proofs.YteeembildppgmaaGreat.Rd
open Go.RowKit Go.Shelf
set_option linter.unusedVariables false
set_option linter.unusedSimpArgs false
set_option maxRecDepth 100000
attribute [local go_sem] Oper.semAt_some
def txRow (ss : List Tx) : List Value := ss.flatMap txCells
theorem Tryz.info140 : (Tryz.prog.info? 140).map (fun i => (i.zero, i.size, i.bytes)) = some (some (.agg (txCells Tx.zero).toArray), 3, 24) := by kernel_rfl
set_option maxRecDepth 100000 in
set_option maxHeartbeats 2000000 in
theorem appendSeqT_in (F : Fence) (n : Nat) (h72 : F.fn 189) (h48 : F.fn 163) (hro : F.round = none) (hn : 3 ≤ n) (Bm b nn : Nat) (f : Int → Option Tx) (w : World) (hBm : w.heap[Bm]? = some (.cells #[.map (some b)] 193 (0, 0))) (h : MapT w b nn f) (hnn : nn ≤ 1000000) :
 CallsIn F n Tryz.prog 189 #[.slice none 0 0, .func (.func 163) #[] #[.pointer (some ⟨Bm, 0, none⟩)]] w fun e w' => ∃ (v : Value) (ss : List Tx), e = .returned v ∧ ValsT f ss ∧ w'.ownsRow w.heap.size 140 3 v ss.length (txRow ss) ∧ Below w.heap.size w w' := by
 have h1 : 1 ≤ n := by omega
 obtain ⟨D, hown, hf⟩ := h
 have hlt := hown.lt
 have hsz := World.ownsMap.size_le hown
 obtain ⟨i0, hi, hz0, hz1, hz2⟩ := info_parts Tryz.info140
 refine callsIn_of_wp_marks Tryz.func189 rfl h72 ?_ hro
 simp only [Tryz.ntmps189, List.size_toArray, List.length_cons, List.length_nil, Nat.reduceAdd, Nat.reduceSub, Array.replicate_succ, Array.replicate_zero, List.push_toArray, List.append_toArray, List.nil_append, List.cons_append]
 gi_wp2
 have bS := Boxed.new w 66 (.slice none 0 0)
 have hB0 : Below w.heap.size w (w.alloc (.cells #[.slice none 0 0] 66)) := (Below.refl _ w).alloc (Nat.le_refl _) _
 have hs0 : (w.alloc (.cells #[.slice none 0 0] 66)).heap.size = w.heap.size + 1 := by simp
 obtain ⟨W0, hW0⟩ : ∃ W0, w.alloc (.cells #[.slice none 0 0] 66) = W0 := ⟨_, rfl⟩
 rw [hW0] at bS hB0 hs0 ⊢
 have hown0 : W0.ownsMap Tryz.prog 3 rT b nn D := by
  obtain ⟨es, clock, hb, Ft, hs, hD⟩ := hown
  exact ⟨es, clock, (hB0.block b hlt).trans hb, Ft, hs, hD⟩
 have hBm0 : W0.heap[Bm]? = some (.cells #[.map (some b)] 193 (0, 0)) := (hB0.block Bm (Array.getElem?_eq_some_iff.1 hBm).1).trans hBm
 clear hW0
 refine wpIn_rangeFunc_ownH hro h1 (gf := 163) (lb := #[.pointer (some ⟨Bm, 0, none⟩)]) rfl h48 (enters_of Tryz.func163 (by kernel_rfl) rfl)
  (valuesT_stops F (n - 1) h48 hro (by omega) Bm b nn f D W0 hBm0 hown0 hf) walksK_t walksK_b (Below.refl _ _) (fun _ => rfl)
  (fun pre W => (∃ v, Boxed W w.heap.size 66 v ∧ W.ownsRow w.heap.size 140 3 v pre.length (txRow pre) ∧ True) ∧ Below w.heap.size w W)
  (fun c pre W => False)
  (OwnFrom.and (Own.from (holdsRow_own w.heap.size w.heap.size 66 140 3 List.length txRow (fun _ _ => True)) _) (ownFrom_below (Nat.le_refl _) (by omega)))
  (fun _ _ _ _ _ hs _ _ => hs)
  ⟨⟨_, bS, ⟨rfl, .inl ⟨rfl, rfl⟩⟩, trivial⟩, hB0⟩
  (fun x a' W => ∃ Bx, w.heap.size < Bx ∧ W.heap[Bx]? = some (.cells (txCells x).toArray 140 (0, 0)) ∧ a' = { tmps := #[.slice none 0 0, .func (.func 163) #[] #[.pointer (some ⟨Bm, 0, none⟩)], .pointer (some ⟨w.heap.size, 0, none⟩), undef, .slice none 0 0, .pointer (some ⟨Bx, 0, none⟩), .func (.func 163) #[] #[.pointer (some ⟨Bm, 0, none⟩)], .agg (txCells x).toArray, undef, undef, undef, undef, undef], defers := [] })
  (fun x a' _ X Y row hs hg hr => by obtain ⟨Bx, h1, h2, h3⟩ := hs; exact ⟨Bx, h1, cellsOwn h2 hg (fun r e => (hr r e).2), h3⟩)
  ?assign ?body ?done ?stop
 case assign =>
  rintro l pre x W K ⟨⟨v, bv, hrow, _⟩, hB1⟩ hK
  unfold encT txCells
  gi_wp2
  refine hK _ _ ((KeepsOthers.alloc _ _).from _) (KeepsWalks.alloc _ _) ⟨⟨v, bv.alloc _, hrow.alloc _, trivial⟩, hB1.alloc hB1.size _⟩ ⟨W.heap.size, bv.lt, heap_alloc_new _ _, rfl⟩
 case body =>
  rintro l pre x a' W hl hr ⟨⟨v, bv, hrow, _⟩, hB1⟩ ⟨Bx, hBx, bX, rfl⟩ hlt
  have cv := bv.cell
  have fv := bv.frozen
  have d0 : W.cell? ⟨Bx, 0, none⟩ = some (.int .i64 x.id) := by rw [cell_of_row _ _ _ _ _ _ bX]; rfl
  have d1 : W.cell? ⟨Bx, 1, none⟩ = some (.int .i64 x.last) := by rw [cell_of_row _ _ _ _ _ _ bX]; rfl
  have d2 : W.cell? ⟨Bx, 2, none⟩ = some (.int .i64 x.st) := by rw [cell_of_row _ _ _ _ _ _ bX]; rfl
  obtain ⟨ao0, mm0, cc0, rfl⟩ := own_form (owns_zero hrow)
  gi_wp2_with (gi_at_builtin; refine wpListIn_append_own _ rfl _ _ 66 rfl w.heap.size 140 i0 (.agg (txCells Tx.zero).toArray) 3 24 Tryz.underlying66 hi hz0 hz1 hz2 rfl (by decide) _ _ _ rfl (hrow.alloc _) ⟨W.heap.size, 0, none⟩ 1 1 (txCells x) rfl rfl (src_of_block (heap_alloc_new _ _)) (by simp [txCells, Value.oneCell']) (by simp only [maxLen]; omega) (by omega) (by have := hB1.size; simp; omega) ?_
               intro v' w3 hown' hg3 hnil3
               obtain ⟨b1, b2, b3, b4, b5⟩ := Boxed.appended bv (by decide) hrow hB1.size (Nat.le_refl _) hown' hg3
               have cv3 := b1.cell
               have fv3 := b1.frozen
               obtain ⟨ao, mm, cc, rfl⟩ := own_form (owns_zero hown')
               go_frame)
  refine ⟨b4.from _, b4.walks, ⟨⟨_, b2, ?_, trivial⟩, hB1.trans b5⟩⟩
  have e1 : (pre ++ [x]).length = pre.length + 1 := by simp
  have e2 : txRow (pre ++ [x]) = txRow pre ++ txCells x := by simp [txRow]
  rw [e1, e2]
  exact b3
 case done =>
  rintro Dd ys W hD hS ⟨⟨v, bv, hrow, _⟩, hB1⟩ hK
  have cv := bv.cell
  obtain ⟨ao0, mm0, cc0, rfl⟩ := own_form (owns_zero hrow)
  gi_wp2
  refine ⟨by simp, .inl ⟨_, _, rfl, run_takeDeferred hK, ?_⟩⟩
  refine ⟨_, results_tmp rfl _ _ _, _, ys, rfl, hS, ?_, hB1.trans (belowK_b (w := w) (Nat.le_refl _) W Dd _ _ (by omega) hK rfl rfl)⟩
  exact hrow.kept (grownBy_putObj' _ _ _) (ownsRow_ne_a hrow hK (fun cur e => by cases e))
 case stop =>
  rintro D c pre W _ _ h _
  exact h.elim
set_option maxHeartbeats 1000000 in
theorem collectT_in (F : Fence) (n : Nat) (h46 : F.fn 161) (h72 : F.fn 189) (h48 : F.fn 163) (hro : F.round = none) (hn : 4 ≤ n) (Bm b nn : Nat) (f : Int → Option Tx) (w : World) (hBm : w.heap[Bm]? = some (.cells #[.map (some b)] 193 (0, 0))) (h : MapT w b nn f) (hnn : nn ≤ 1000000) :
 CallsIn F n Tryz.prog 161 #[.func (.func 163) #[] #[.pointer (some ⟨Bm, 0, none⟩)]] w fun e w' => ∃ (v : Value) (ss : List Tx), e = .returned v ∧ ValsT f ss ∧ w'.ownsRow w.heap.size 140 3 v ss.length (txRow ss) ∧ Below w.heap.size w w' := by
 have h1 : 1 ≤ n := by omega
 refine callsIn_of_wp Tryz.func161 rfl h46 ?_ hro
 simp only [Tryz.ntmps161, List.size_toArray, List.length_cons, List.length_nil, Nat.reduceAdd, Nat.reduceSub, Array.replicate_succ, Array.replicate_zero, List.push_toArray, List.append_toArray, List.nil_append, List.cons_append]
 gi_wp2_with (gi_at_call 189; refine (appendSeqT_in F (n - 1) h72 h48 hro (by omega) Bm b nn f _ hBm h hnn).mono ?_; rintro e w' ⟨v, ss, rfl, hS, hrow, hb⟩)
 go_ret
 exact ⟨v, ss, rfl, hS, hrow, hb⟩
theorem collectT_any (Bm b nn : Nat) (f : Int → Option Tx) (w : World) (hBm : w.heap[Bm]? = some (.cells #[.map (some b)] 193 (0, 0))) (h : MapT w b nn f) (hnn : nn ≤ 1000000) :
 Calls Tryz.prog 161 #[.func (.func 163) #[] #[.pointer (some ⟨Bm, 0, none⟩)]] w fun e w' => ∃ (v : Value) (ss : List Tx), e = .returned v ∧ ValsT f ss ∧ w'.ownsRow w.heap.size 140 3 v ss.length (txRow ss) ∧ Below w.heap.size w w' :=
 (callsIn_wide (n := 6)).1 (collectT_in Fence.wide 6 trivial trivial trivial rfl (by omega) Bm b nn f w hBm h hnn)
end Go.Proofs.YteeembildppgmaaGreat.Rd
namespace Go.Proofs.YteeembildppgmaaGreat.Rd
open Go.RowKit
set_option linter.unusedVariables false
set_option linter.unusedSimpArgs false
set_option maxRecDepth 100000
def dirtRow (ss : List (Int × Int)) : List Value := ss.flatMap encD
section
variable [Inhabited Tx]
theorem holdsT_of_owns {w : World} {g : Nat} {cur : Array Value} {l : List (Tx)} (hg : w.heap[g]? = some (.cells cur 140 (0, 0))) (ht : cur.toList.take (l.length * 3) = txRow l) : Go.Sort.HoldsK txCells 3 w g 0 l.toArray := by
 intro j hj
 rw [Go.Sort.size_flatK] at hj
 have hj' : j < l.length * 3 := by simpa using hj
 have e : (txRow l)[j]? = some ((Go.Sort.flatK txCells 3 l.toArray)[j]!) := by
  rw [Go.Sort.get_flatK _ _ _ _ hj]
  have := flat_get 3 (l.map txCells) (fun x hx => by obtain ⟨y, _, rfl⟩ := List.mem_map.1 hx; rfl) (j / 3) (by rw [List.length_map]; omega) (j % 3) (by omega)
  rw [show j / 3 * 3 + j % 3 = j by omega] at this
  unfold txRow
  rw [List.flatMap_def, this, List.getElem_map, getElem!_pos l.toArray (j / 3) (by simp; omega), List.getElem_toArray]
  have h2 : j % 3 = 0 ∨ j % 3 = 1 ∨ j % 3 = 2 := by omega
  rcases h2 with h2 | h2 | h2 <;> rw [h2] <;> rfl
 refine ⟨?_, frozen_of_row w g _ _ _ hg⟩
 rw [Nat.zero_add, cell_of_row w g j _ _ _ hg]
 rw [← ht, List.getElem?_take, if_pos hj'] at e
 simpa using e
end
theorem holdsD_of_owns {w : World} {g : Nat} {cur : Array Value} {l : List (Int × Int)} (hg : w.heap[g]? = some (.cells cur 142 (0, 0))) (ht : cur.toList.take (l.length * 2) = dirtRow l) : Go.Sort.HoldsK encD 2 w g 0 l.toArray := by
 intro j hj
 rw [Go.Sort.size_flatK] at hj
 have hj' : j < l.length * 2 := by simpa using hj
 have e : (dirtRow l)[j]? = some ((Go.Sort.flatK encD 2 l.toArray)[j]!) := by
  rw [Go.Sort.get_flatK _ _ _ _ hj]
  have := flat_get 2 (l.map encD) (fun x hx => by obtain ⟨y, _, rfl⟩ := List.mem_map.1 hx; rfl) (j / 2) (by rw [List.length_map]; omega) (j % 2) (by omega)
  rw [show j / 2 * 2 + j % 2 = j by omega] at this
  unfold dirtRow
  rw [List.flatMap_def, this, List.getElem_map, getElem!_pos l.toArray (j / 2) (by simp; omega), List.getElem_toArray]
  have h2 : j % 2 = 0 ∨ j % 2 = 1 := by omega
  rcases h2 with h2 | h2 <;> rw [h2] <;> rfl
 refine ⟨?_, frozen_of_row w g _ _ _ hg⟩
 rw [Nat.zero_add, cell_of_row w g j _ _ _ hg]
 rw [← ht, List.getElem?_take, if_pos hj'] at e
 simpa using e

def TxsAt (w : World) (a : Option Addr) (d : List Tx) : Prop := ∀ (i : Nat) (x : Tx), d[i]? = some x → ∃ b o, a = some ⟨b, o, none⟩ ∧ b < w.heap.size ∧ w.rangeAt b (o + i * 3) (txCells x)
theorem TxsAt.below {w w' : World} {a : Option Addr} {d : List Tx} (h : TxsAt w a d) (hb : Below w.heap.size w w') : TxsAt w' a d := fun i x hx => by
 obtain ⟨b, o, h1, h2, h3⟩ := h i x hx
 exact ⟨b, o, h1, Nat.lt_of_lt_of_le h2 hb.size, fun j v hv => (hb.cell (p := ⟨b, o + i * 3 + j, none⟩) h2).trans (h3 j v hv)⟩
section
variable [Inhabited Tx]
theorem txs_of_holds {w : World} {g : Nat} {d : Array Tx} (hg : g < w.heap.size) (h : Go.Sort.HoldsK txCells 3 w g 0 d) : TxsAt w (some ⟨g, 0, none⟩) d.toList := by
 intro i x hx
 obtain ⟨hj, rfl⟩ := List.getElem?_eq_some_iff.1 hx
 have hj' : i < d.size := by simpa using hj
 have a0 := (h.cell (i := i) (c := 0) hj' (by omega)).1
 have a1 := (h.cell (i := i) (c := 1) hj' (by omega)).1
 have a2 := (h.cell (i := i) (c := 2) hj' (by omega)).1
 rw [getElem!_pos d i hj'] at a0 a1 a2
 refine ⟨g, 0, rfl, hg, fun j v hv => ?_⟩
 match j, hv with
 | 0, hv => rw [← hv]; exact a0
 | 1, hv => rw [← hv]; exact a1
 | 2, hv => rw [← hv]; exact a2
 | j + 3, hv => exact absurd hv (by simp [txCells])
end
theorem dirts_of_holds {w : World} {g : Nat} {d : Array (Int × Int)} (hl : d.size ≤ 1000000) (hin : ∀ x ∈ d.toList, In64 x.1 ∧ In64 x.2) (hg : g < w.heap.size) (h : Go.Sort.HoldsK encD 2 w g 0 d) : DirtsAt w (some ⟨g, 0, none⟩) d.toList := by
 refine ⟨by simpa using hl, fun i x hx => ?_⟩
 obtain ⟨hj, rfl⟩ := List.getElem?_eq_some_iff.1 hx
 have hj' : i < d.size := by simpa using hj
 have a0 := (h.cell (i := i) (c := 0) hj' (by omega)).1
 have a1 := (h.cell (i := i) (c := 1) hj' (by omega)).1
 rw [getElem!_pos d i hj'] at a0 a1
 have hm := hin _ (List.getElem_mem hj)
 refine ⟨hm.1, hm.2, g, 0, rfl, hg, fun j v hv => ?_⟩
 match j, hv with
 | 0, hv => rw [← hv]; exact a0
 | 1, hv => rw [← hv]; exact a1
 | j + 2, hv => exact absurd hv (by simp)
def TxnsOf (f : Int → Option Tx) (d : List Tx) : Prop := ∃ ss, ValsT f ss ∧ d.Perm ss ∧ d.Pairwise (fun x y => x.id ≤ y.id)
end Go.Proofs.YteeembildppgmaaGreat.Rd
namespace Go.Proofs.YteeembildppgmaaGreat.Rd
open Go.RowKit Go.Maps
set_option linter.unusedVariables false
set_option linter.unusedSimpArgs false
set_option maxRecDepth 100000
theorem own_some {w : World} {base : Nat} {e : TypeId} {size : Nat} {v : Value} {n : Nat} {xs : List Value} (h : w.ownsRow base e size v n xs) (hn : n ≠ 0) : ∃ g cap cur, v = .slice (some ⟨g, 0, none⟩) n cap ∧ base ≤ g ∧ w.heap[g]? = some (.cells cur e (0, 0)) ∧ n ≤ cap ∧ cap ≤ maxLen ∧ cur.size = cap * size ∧ cur.toList.take (n * size) = xs := by
 rcases h.2 with ⟨_, h0⟩ | h'
 · exact absurd h0 hn
 · exact h'
def CameD (f : Int → Option Int) (left : Lit → Bool) (ds : List (Int × Int)) : Prop :=
 (ds.map Prod.fst).Nodup ∧ (∀ x ∈ ds, In64 x.1 ∧ f x.1 = some x.2 ∧ left (.int .i64 x.1) = false) ∧ (∀ k v, In64 k → f k = some v → left (.int .i64 k) = false → (k, v) ∈ ds)
def EntsD (f : Int → Option Int) (ds : List (Int × Int)) : Prop :=
 (ds.map Prod.fst).Nodup ∧ (∀ x ∈ ds, In64 x.1 ∧ f x.1 = some x.2) ∧ (∀ k v, In64 k → f k = some v → (k, v) ∈ ds)
def DirtOf (f : Int → Option Int) (d : List (Int × Int)) : Prop := EntsD f d ∧ d.Pairwise (fun x y => x.1 ≤ y.1)
theorem EntsD.perm {f : Int → Option Int} {d e : List (Int × Int)} (h : EntsD f d) (hp : e.Perm d) : EntsD f e :=
 ⟨(hp.map Prod.fst).nodup_iff.2 h.1, fun x hx => h.2.1 x (hp.mem_iff.1 hx), fun k v hk hv => hp.mem_iff.2 (h.2.2 k v hk hv)⟩
theorem Tryz.info142 : (Tryz.prog.info? 142).map (fun i => (i.zero, i.size, i.bytes)) = some (some (.agg (encD (0, 0)).toArray), 2, 16) := by kernel_rfl
def noTx : Int → Option Tx := fun _ => none
end Go.Proofs.YteeembildppgmaaGreat.Rd
namespace Go.Proofs.YteeembildppgmaaGreat.Rd
open Go.RowKit Go.Shelf
set_option linter.unusedVariables false
set_option linter.unusedSimpArgs false
set_option maxRecDepth 100000
theorem sort_none (p : Option Addr) (cap : Nat) (w : World) : Calls Tryz.prog 117 #[.slice p 0 cap, .func (.func 137) #[] #[]] w fun e w' => e = .returned (.tuple #[]) ∧ w' = w := by
 have hcon := AnyF.slices_SortFunc_none { Tryz.sortD with } p cap (.func (.func 137) #[] #[]) w
 change Calls Tryz.prog 117 _ _ _ at hcon
 exact hcon
theorem sortT_none (p : Option Addr) (cap : Nat) (w : World) : Calls Tryz.prog 162 #[.slice p 0 cap, .func (.func 140) #[] #[]] w fun e w' => e = .returned (.tuple #[]) ∧ w' = w := by
 have hcon := AnyF.slices_SortFunc_none { Tryz.sortT with } p cap (.func (.func 140) #[] #[]) w
 change Calls Tryz.prog 162 _ _ _ at hcon
 exact hcon
theorem own_len' {w : World} {base : Nat} {e : TypeId} {size n : Nat} {v : Value} {xs : List Value} (h : w.ownsRow base e size v n xs) : ∃ ao c, v = .slice ao n c := by
 rcases h.2 with ⟨h1, h2⟩ | ⟨g, cap, cur, h1, _⟩
 · exact ⟨none, 0, by rw [h2]; exact h1⟩
 · exact ⟨_, _, h1⟩
theorem sortT_all {base : Nat} (v : Value) (ss : List Tx) (w : World) (hrow : w.ownsRow base 140 3 v ss.length (txRow ss)) (h12 : ss.length ≤ 12) :
 Calls Tryz.prog 162 #[v, .func (.func 140) #[] #[]] w fun e w' => e = .returned (.tuple #[]) ∧ ∃ (ao : Option Addr) (c : Nat) (d : List Tx), v = .slice ao d.length c ∧ d.length = ss.length ∧ d.Perm ss ∧ d.Pairwise (fun x y => x.id ≤ y.id) ∧ TxsAt w' ao d ∧ Off v.ownBlock.toList w w' := by
 haveI : Inhabited Tx := ⟨Tx.zero⟩
 by_cases h0 : ss.length = 0
 · obtain ⟨ao, c, rfl⟩ := own_len' hrow
   obtain rfl := List.length_eq_zero_iff.1 h0
   refine (sortT_none ao c w).mono ?_
   rintro e w' ⟨rfl, rfl⟩
   exact ⟨rfl, ao, c, [], rfl, rfl, List.Perm.refl _, List.Pairwise.nil, fun i x hx => by simp at hx, Off.refl _ _⟩
 · obtain ⟨g, cap, cur, rfl, hbase, hg, hr1, hr2, hr3, hr4⟩ := own_some hrow h0
   have hlt : g < w.heap.size := (Array.getElem?_eq_some_iff.1 hg).1
   have hs := sortT_any g cap ss.toArray w (holdsT_of_owns hg hr4) hlt (by simpa using h12)
   have hsz : ss.toArray.size = ss.length := by simp
   rw [hsz] at hs
   refine hs.mono ?_
   rintro e w' ⟨rfl, d, hp, hd, hpw, hH, hO⟩
   have hl : ss.length = d.toList.length := hd.symm.trans Array.length_toList.symm
   exact ⟨rfl, _, cap, d.toList, by rw [hl], hl.symm, by simpa using hp, hpw, txs_of_holds (Nat.lt_of_lt_of_le hlt hO.size) hH, by simpa [Value.ownBlock] using hO⟩
theorem sort_all {base : Nat} (v : Value) (ds : List (Int × Int)) (w : World) (hrow : w.ownsRow base 142 2 v ds.length (dirtRow ds)) (h12 : ds.length ≤ 12) (hin : ∀ x ∈ ds, In64 x.1 ∧ In64 x.2) :
 Calls Tryz.prog 117 #[v, .func (.func 137) #[] #[]] w fun e w' => e = .returned (.tuple #[]) ∧ ∃ (ao : Option Addr) (c : Nat) (d : List (Int × Int)), v = .slice ao d.length c ∧ d.length = ds.length ∧ d.Perm ds ∧ d.Pairwise (fun x y => x.1 ≤ y.1) ∧ DirtsAt w' ao d ∧ Off v.ownBlock.toList w w' := by
 by_cases h0 : ds.length = 0
 · obtain ⟨ao, c, rfl⟩ := own_len' hrow
   obtain rfl := List.length_eq_zero_iff.1 h0
   refine (sort_none ao c w).mono ?_
   rintro e w' ⟨rfl, rfl⟩
   exact ⟨rfl, ao, c, [], rfl, rfl, List.Perm.refl _, List.Pairwise.nil, ⟨by simp, fun i x hx => by simp at hx⟩, Off.refl _ _⟩
 · obtain ⟨g, cap, cur, rfl, hbase, hg, hr1, hr2, hr3, hr4⟩ := own_some hrow h0
   have hlt : g < w.heap.size := (Array.getElem?_eq_some_iff.1 hg).1
   have hs := sort_any g cap ds.toArray w (holdsD_of_owns hg hr4) hlt (by simpa using h12)
   have hsz : ds.toArray.size = ds.length := by simp
   rw [hsz] at hs
   refine hs.mono ?_
   rintro e w' ⟨rfl, d, hp, hd, hpw, hH, hO⟩
   have hl : ds.length = d.toList.length := hd.symm.trans Array.length_toList.symm
   have hp' : d.toList.Perm ds := by simpa using hp
   exact ⟨rfl, _, cap, d.toList, by rw [hl], hl.symm, hp', hpw, dirts_of_holds (by rw [← Array.length_toList]; omega) (fun x hx => hin x (hp'.mem_iff.1 hx)) (Nat.lt_of_lt_of_le hlt hO.size) hH, by simpa [Value.ownBlock] using hO⟩
set_option maxHeartbeats 2000000 in
set_option maxRecDepth 100000 in
theorem sortedT_all (Bm b nn : Nat) (f : Int → Option Tx) (w : World) (hBm : w.heap[Bm]? = some (.cells #[.map (some b)] 193 (0, 0))) (h : MapT w b nn f) (hnn : nn ≤ 1000000) (h12 : ∀ ss, ValsT f ss → ss.length ≤ 12) :
 Calls Tryz.prog 138 #[.func (.func 163) #[] #[.pointer (some ⟨Bm, 0, none⟩)], .func (.func 140) #[] #[]] w fun e w' => ∃ (ao : Option Addr) (c : Nat) (d : List Tx), e = .returned (.slice ao d.length c) ∧ TxnsOf f d ∧ TxsAt w' ao d ∧ Below w.heap.size w w' := by
 have HC := hide (collectT_any Bm b nn f w hBm h hnn)
 clear hBm h
 go_enter Tryz.func138, Tryz.ntmps138
 go_wp2_with (first
  | (go_at_call 161; refine HC.out.mono ?_; rintro e x1 ⟨v, ss, rfl, hV, hrow, hb⟩
     obtain ⟨ao, c, rfl⟩ := own_len' hrow
     have HS := hide (sortT_all _ ss x1 hrow (h12 ss hV))
     have HV := hide (And.intro hV (And.intro hrow hb))
     clear hrow hV hb)
  | (go_at_call 162; refine HS.out.mono ?_; rintro e x2 ⟨rfl, ao', c', d, hv, hl, hp, hpw, hT, hO⟩
     injection hv with q1 q2 q3
     subst q1
     have H2 := hide (And.intro hl (And.intro hp (And.intro hpw (And.intro hT hO))))
     clear hl hp hpw hT hO q2 q3))
 go_ret
 obtain ⟨hl, hp, hpw, hT, hO⟩ := H2.out
 obtain ⟨hV, hrow, hb⟩ := HV.out
 refine ⟨ao, c, d, by rw [hl]; rfl, ⟨ss, hV, hp, hpw⟩, hT, ?_⟩
 exact hb.trans (hO.below (B := w.heap.size) hb.size (fun k hk => (hrow.lt k (by simpa using hk)).1))
end Go.Proofs.YteeembildppgmaaGreat.Rd
