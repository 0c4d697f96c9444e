/- The two sorts. -/
import Derived.Test.YtpjppolbkdnkaaaPassA
import Derived.Test.YtpjppolbkdnkaaaSlib
namespace Go.Proofs.Ytpjppolbkdnkaaa
open Go.RowKit
set_option linter.unusedVariables false
set_option linter.unusedSimpArgs false
open Go.Sort hiding Below
def encD (x : Int × Int) : List Value := [.int .i64 x.1, .int .i64 x.2]
set_option maxHeartbeats 1000000 in
theorem less_any (x y : Int × Int) (W : World) : Calls Try.prog 22 #[.agg #[.int .i64 x.1, .int .i64 x.2], .agg #[.int .i64 y.1, .int .i64 y.2]] W fun e w' => e = .returned (.int .i64 (Lib.compareInt x.1 y.1)) ∧ ∃ q os', w' = grow (W.drewN q) os' := by
  have hcon := fun W' => AnyG.cmp_Compare_int Try.cmpInt x.1 y.1 W'
  change ∀ W', Calls Try.prog 23 _ _ _ at hcon
  generalize Lib.compareInt x.1 y.1 = r at hcon ⊢
  go_enter Try.func22, Try.ntmps22
  go_wp2_with (go_at_call 23; refine (hcon _).mono ?_; rintro e w' ⟨rfl, rfl⟩)
  go_ret
  exact ⟨rfl, 0, _, by rw [alloc_eq_grow, alloc_eq_grow, grow_grow]; rfl⟩
theorem len_any (n : Nat) (W : World) (h : n ≤ 12) : Calls Try.prog 44 #[.int .u64 n] W fun e w' => (∃ l : Int, e = .returned (.int .i64 l)) ∧ w' = W :=
  (Any.bits_Len Try.bitsLen n W (by omega) (by omega)).mono fun _ _ ⟨he, hw⟩ => ⟨⟨_, he⟩, hw⟩
theorem swoD : SWO (ltOf fun x y : Int × Int => Lib.compareInt x.1 y.1) := by
  have key : ∀ x y : Int × Int, ltOf (fun x y : Int × Int => Lib.compareInt x.1 y.1) x y = decide (x.1 < y.1) := fun x y => by
    simp only [ltOf, Lib.compareInt]
    split
    · simp [*]
    · split
      · simp [*]
      · simp [*]
  refine ⟨fun x => by rw [key]; simp, fun x y z h1 h2 => ?_, fun x y z h1 h2 => ?_⟩
  · rw [key] at h1 h2 ⊢; simp at h1 h2 ⊢; omega
  · rw [key] at h1 h2 ⊢; simp at h1 h2 ⊢; omega
theorem ltD (x y : Int × Int) : ltOf (fun x y : Int × Int => Lib.compareInt x.1 y.1) x y = decide (x.1 < y.1) := by
  simp only [ltOf, Lib.compareInt]
  split
  · simp [*]
  · split
    · simp [*]
    · simp [*]
theorem off_sort (w : World) (g off m : Nat) (d : Array (Int × Int)) (os : Array Obj) : Off [g] w (sortWorldK encD 2 w g off m d os) := by
  refine ⟨rfl, rfl, rfl, ?_, fun k hk hn => ?_⟩
  · simp [sortWorldK, grow, putRowK, putRow, mapBlock, Go.Sort.ahead]
  · have hne : ¬ g = k := fun e => hn (by simp [e])
    simp [sortWorldK, grow, putRowK, putRow, mapBlock, Go.Sort.ahead, Array.getElem?_append, hk, Array.getElem_modify, hne]
theorem sort_any (g cap : Nat) (d : Array (Int × Int)) (w : World) (hH : HoldsK encD 2 w g 0 d) (hg : g < w.heap.size) (h12 : d.size ≤ 12) :
    Calls Try.prog 21 #[.slice (some ⟨g, 0, none⟩) d.size cap, .func (.func 22) #[] #[]] w fun e w' => e = .returned (.tuple #[]) ∧ ∃ d' : Array (Int × Int), d'.toList.Perm d.toList ∧ d'.size = d.size ∧ d'.toList.Pairwise (fun x y => x.1 ≤ y.1) ∧ HoldsK encD 2 w' g 0 d' ∧ Off [g] w w' := by
  have eg : ∀ args w, (callFunc 22 args).run Try.prog w = .ok (.enter 22 args) w := enters_of Try.func22 (by kernel_rfl) rfl
  have hcmp : CmpLays Try.prog 22 #[] encD 2 (fun x y => Lib.compareInt x.1 y.1) g 0 d.size w := fun _ _ _ _ x y => less_any x y _
  have hcon := AnyQ.slices_SortFunc_small_sorted Try.sortD 2 Try.isAgg36 Try.sizeOf36 encD (fun _ => rfl) (fun x v hv => by simp [encD] at hv; rcases hv with rfl | rfl <;> rfl) (fun x y => Lib.compareInt x.1 y.1) 22 #[] swoD g 0 cap d w eg hcmp hH hg h12 len_any
  change Calls Try.prog 21 _ _ _ at hcon
  refine hcon.mono ?_
  rintro e w' ⟨rfl, d', n, os, hp, hs, rfl⟩
  obtain ⟨hp1, hp2, hp3⟩ := hp
  refine ⟨rfl, d', ?_, hp1, ?_, ?_, off_sort w g 0 n d' os⟩
  · have e1 : d'.extract 0 d.size = d' := by rw [← hp1]; simp
    have e2 : d.extract 0 d.size = d := by simp
    rw [e1, e2] at hp3
    exact hp3
  · rw [List.pairwise_iff_getElem]
    intro i j hi hj hij
    have := hs i j (Nat.zero_le _) hij (by rw [← hp1]; simpa using hj)
    rw [ltD, getElem!_pos d' j (by simpa using hj), getElem!_pos d' i (by simpa using hi)] at this
    simpa using this
  · have hb : g < (putRowK encD 2 (Go.Sort.ahead w n) g 0 d').heap.size := by
      have : (putRowK encD 2 (Go.Sort.ahead w n) g 0 d').heap.size = w.heap.size := by simp [putRowK, putRow, mapBlock, Go.Sort.ahead]
      omega
    exact holdsK_grow encD 2 _ _ _ _ _ hb (holdsK_putRowK encD 2 _ _ _ d d' (holdsK_ahead encD 2 _ _ _ _ _ hH) hp1)
set_option maxHeartbeats 1000000 in
theorem lessT_any (x y : Tx) (W : World) : Calls Try.prog 26 #[.agg #[.int .i64 x.id, .int .i64 x.last, .int .i64 x.st], .agg #[.int .i64 y.id, .int .i64 y.last, .int .i64 y.st]] W fun e w' => e = .returned (.int .i64 (Lib.compareInt x.id y.id)) ∧ ∃ q os', w' = grow (W.drewN q) os' := by
  have hcon := fun W' => AnyG.cmp_Compare_int Try.cmpInt x.id y.id W'
  change ∀ W', Calls Try.prog 23 _ _ _ at hcon
  generalize Lib.compareInt x.id y.id = r at hcon ⊢
  go_enter Try.func26, Try.ntmps26
  go_wp2_with (go_at_call 23; refine (hcon _).mono ?_; rintro e w' ⟨rfl, rfl⟩)
  go_ret
  exact ⟨rfl, 0, _, by rw [alloc_eq_grow, alloc_eq_grow, grow_grow]; rfl⟩
theorem swoT : SWO (ltOf fun x y : Tx => Lib.compareInt x.id y.id) := by
  have key : ∀ x y : Tx, ltOf (fun x y : Tx => Lib.compareInt x.id y.id) x y = decide (x.id < y.id) := fun x y => by
    simp only [ltOf, Lib.compareInt]
    split
    · simp [*]
    · split
      · simp [*]
      · simp [*]
  refine ⟨fun x => by rw [key]; simp, fun x y z h1 h2 => ?_, fun x y z h1 h2 => ?_⟩
  · rw [key] at h1 h2 ⊢; simp at h1 h2 ⊢; omega
  · rw [key] at h1 h2 ⊢; simp at h1 h2 ⊢; omega
theorem ltT (x y : Tx) : ltOf (fun x y : Tx => Lib.compareInt x.id y.id) x y = decide (x.id < y.id) := by
  simp only [ltOf, Lib.compareInt]
  split
  · simp [*]
  · split
    · simp [*]
    · simp [*]
section
variable [Inhabited Tx]
theorem offT_sort (w : World) (g off m : Nat) (d : Array (Tx)) (os : Array Obj) : Off [g] w (sortWorldK txCells 3 w g off m d os) := by
  refine ⟨rfl, rfl, rfl, ?_, fun k hk hn => ?_⟩
  · simp [sortWorldK, grow, putRowK, putRow, mapBlock, Go.Sort.ahead]
  · have hne : ¬ g = k := fun e => hn (by simp [e])
    simp [sortWorldK, grow, putRowK, putRow, mapBlock, Go.Sort.ahead, Array.getElem?_append, hk, Array.getElem_modify, hne]
theorem sortT_any (g cap : Nat) (d : Array (Tx)) (w : World) (hH : HoldsK txCells 3 w g 0 d) (hg : g < w.heap.size) (h12 : d.size ≤ 12) :
    Calls Try.prog 47 #[.slice (some ⟨g, 0, none⟩) d.size cap, .func (.func 26) #[] #[]] w fun e w' => e = .returned (.tuple #[]) ∧ ∃ d' : Array (Tx), d'.toList.Perm d.toList ∧ d'.size = d.size ∧ d'.toList.Pairwise (fun x y => x.id ≤ y.id) ∧ HoldsK txCells 3 w' g 0 d' ∧ Off [g] w w' := by
  have eg : ∀ args w, (callFunc 26 args).run Try.prog w = .ok (.enter 26 args) w := enters_of Try.func26 (by kernel_rfl) rfl
  have hcmp : CmpLays Try.prog 26 #[] txCells 3 (fun x y => Lib.compareInt x.id y.id) g 0 d.size w := fun _ _ _ _ x y => lessT_any x y _
  have hcon := AnyQ.slices_SortFunc_small_sorted Try.sortT 3 Try.isAgg47 Try.sizeOf47 txCells (fun _ => rfl) (fun x v hv => by simp [txCells] at hv; rcases hv with rfl | rfl | rfl <;> rfl) (fun x y => Lib.compareInt x.id y.id) 26 #[] swoT g 0 cap d w eg hcmp hH hg h12 len_any
  change Calls Try.prog 47 _ _ _ at hcon
  refine hcon.mono ?_
  rintro e w' ⟨rfl, d', n, os, hp, hs, rfl⟩
  obtain ⟨hp1, hp2, hp3⟩ := hp
  refine ⟨rfl, d', ?_, hp1, ?_, ?_, offT_sort w g 0 n d' os⟩
  · have e1 : d'.extract 0 d.size = d' := by rw [← hp1]; simp
    have e2 : d.extract 0 d.size = d := by simp
    rw [e1, e2] at hp3
    exact hp3
  · rw [List.pairwise_iff_getElem]
    intro i j hi hj hij
    have := hs i j (Nat.zero_le _) hij (by rw [← hp1]; simpa using hj)
    rw [ltT, getElem!_pos d' j (by simpa using hj), getElem!_pos d' i (by simpa using hi)] at this
    simpa using this
  · have hb : g < (putRowK txCells 3 (Go.Sort.ahead w n) g 0 d').heap.size := by
      have : (putRowK txCells 3 (Go.Sort.ahead w n) g 0 d').heap.size = w.heap.size := by simp [putRowK, putRow, mapBlock, Go.Sort.ahead]
      omega
    exact holdsK_grow txCells 3 _ _ _ _ _ hb (holdsK_putRowK txCells 3 _ _ _ d d' (holdsK_ahead txCells 3 _ _ _ _ _ hH) hp1)
end
end Go.Proofs.Ytpjppolbkdnkaaa
