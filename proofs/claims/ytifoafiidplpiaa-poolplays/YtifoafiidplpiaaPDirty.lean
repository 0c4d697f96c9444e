/- New; Dirty. -/
import Derived.Test.YtifoafiidplpiaaPGot
namespace Go.Proofs.Ytifoafiidplpiaa
open Go.RowKit
set_option linter.unusedVariables false
set_option linter.unusedSimpArgs false

/-! ### New -/
def zeroFr : Array Value := #[.bool false, .int .i64 0, .slice none 0 0, .bool false, .bool false, .int .i64 0, .int .i64 0]
theorem Try.info82 : (Try.prog.info? 82).map (fun i => (i.zero, i.size, i.bytes)) = some (some (.agg zeroFr), 7, 64) := by kernel_rfl
theorem made_frames (m : Nat) : madeCells zeroFr (m * 7) = (rowF (List.replicate m Fm.nil) (List.replicate m (.slice none 0 0))).toArray := by
  have hl := rowF_length (List.replicate m Fm.nil) (List.replicate m (Value.slice none 0 0)) (by simp)
  apply Array.ext
  · simp [madeCells, hl]
  · intro j h1 h2
    have hj : j < m * 7 := by simpa [madeCells] using h1
    simp only [madeCells, Array.getElem_map, Array.getElem_range, List.getElem_toArray]
    have hg := rowF_get (List.replicate m Fm.nil) (List.replicate m (Value.slice none 0 0)) (by simp) (j / 7) (by simp; omega) (j % 7) (by omega)
    rw [show j / 7 * 7 + j % 7 = j by omega, List.getElem?_eq_getElem (by rw [hl]; simpa using hj)] at hg
    simp only [List.getElem_replicate] at hg
    have hc : j % 7 = 0 ∨ j % 7 = 1 ∨ j % 7 = 2 ∨ j % 7 = 3 ∨ j % 7 = 4 ∨ j % 7 = 5 ∨ j % 7 = 6 := by omega
    have hz : zeroFr.size = 7 := rfl
    rw [hz]
    rcases hc with e | e | e | e | e | e | e <;> rw [e] at hg ⊢ <;> exact (Option.some.inj hg).symm
theorem makeFrames (m : Nat) (w : World) (h2 : m ≤ 64) : (Instr.makeSlice 75 (.int .i64 (m : Int)) (.int .i64 (m : Int))).run Try.prog w = .ok (.slice (some ⟨w.heap.size, 0, none⟩) m m) (w.alloc (.cells (rowF (List.replicate m Fm.nil) (List.replicate m (.slice none 0 0))).toArray 82)) := by
  obtain ⟨i, hi, hz⟩ := Option.map_eq_some_iff.1 Try.info82
  simp only [Prod.mk.injEq] at hz
  obtain ⟨hz, hs, hb⟩ := hz
  have h := run_make (P := Try.prog) w 75 82 i _ Try.underlying75 hi hz .i64 .i64 (m : Int) (m : Int) (by omega) (by omega) (by rw [hb]; omega) (by omega)
  rw [h, hs, ← made_frames]
  rfl
def Pl.made {σ : Type} (m : Nat) (dk : List (List UInt8)) (s : σ) : Pl σ := ⟨List.replicate m Fm.nil, 0, 0, dk, s⟩
section
variable {Φ : Force} {w0 w w' : World} {P G q p n : Nat} {xs bl ff : List Nat} {vs : List Value} {S : Pl Φ.σ} {D D' : Dv}
set_option maxHeartbeats 1000000 in
set_option maxRecDepth 100000 in
theorem newp_ok (m : Nat) (h1 : 1 ≤ m) (h2 : m ≤ 64) (hF : Fs w0 w q p 0 n false (ff ++ xs) D) (hw : D.well) (hn : D.W = []) (hl : 5 + 4 * n ≤ D.L.length) (dk : List (List UInt8)) (hd : ∀ i, i < n → pageL D.L (0 + 5 + 4 * i) = dk.getD i []) (hdl : dk.length = n) (h5 : ∀ i, i < n → (dk.getD i []).length = 512)
    (s : Φ.σ) (hs : Φ.held w ff s) (hf0 : ∀ k ∈ ff, w0.heap.size ≤ k) (hfx : ∀ k ∈ ff, k ∉ xs) :
    Calls Try.prog 8 #[.pointer (some ⟨q, 0, none⟩), .int .i64 (m : Int), Φ.fv] w fun e w' => ∃ P G, e = .returned (.tuple #[.pointer (some ⟨P, 0, none⟩), .int .i64 0]) ∧ PoolAt Φ w0 w' P G q p n xs (Pl.made m dk s) ∧ Below w.heap.size w w' := by
  have hmk := makeFrames m w h2
  obtain ⟨w1, hw1⟩ : ∃ w1, w.alloc (.cells (rowF (List.replicate m Fm.nil) (List.replicate m (.slice none 0 0))).toArray 82) = w1 := ⟨_, rfl⟩
  have hb1 : Below w.heap.size w w1 := by rw [← hw1]; exact (Below.refl _ _).alloc (Nat.le_refl _) _
  have hg1 : w1.heap[w.heap.size]? = some (.cells (rowF (List.replicate m Fm.nil) (List.replicate m (.slice none 0 0))).toArray 82 (0, 0)) := by rw [← hw1]; exact heap_alloc_new w _
  have hz1 : w1.heap.size = w.heap.size + 1 := by rw [← hw1]; simp
  rw [hw1] at hmk
  have HB1 := hide hb1
  have HG1 := hide hg1
  have HZ1 := hide hz1
  have HF := hide hF
  clear hw1 hb1 hg1 hz1 hF
  have hmm : ¬ ((m : Int) < 1) := by omega
  have hmm' : ¬ ((m : Int) > 64) := by omega
  have q33 : ∀ W : World, (binOp .eql 33 (.func (.func Φ.g) #[] Φ.cb) .nilFunc).run Try.prog W = .ok (.bool false) W := fun W => by
    kernel_rfl
  unfold Force.fv
  go_enter Try.func8, Try.ntmps8
  go_wp2
  go_ret2
  have hP : (w1.alloc (.cells #[.pointer (some ⟨q, 0, none⟩), .func (.func Φ.g) #[] Φ.cb, .slice (some ⟨w.heap.size, 0, none⟩) m m, .int .i64 0, .int .i64 0] 77)).heap[w1.heap.size]? = some (.cells #[.pointer (some ⟨q, 0, none⟩), .func (.func Φ.g) #[] Φ.cb, .slice (some ⟨w.heap.size, 0, none⟩) m m, .int .i64 0, .int .i64 0] 77 (0, 0)) := heap_alloc_new w1 _
  have hB : Below w1.heap.size w1 (w1.alloc (.cells #[.pointer (some ⟨q, 0, none⟩), .func (.func Φ.g) #[] Φ.cb, .slice (some ⟨w.heap.size, 0, none⟩) m m, .int .i64 0, .int .i64 0] 77)) := (Below.refl _ _).alloc (Nat.le_refl _) _
  have hz2 : (w1.alloc (.cells #[.pointer (some ⟨q, 0, none⟩), .func (.func Φ.g) #[] Φ.cb, .slice (some ⟨w.heap.size, 0, none⟩) m m, .int .i64 0, .int .i64 0] 77)).heap.size = w1.heap.size + 1 := by simp
  refine ⟨_, rfl, ⟨w.heap.size, ?_⟩, HB1.out.trans (hB.mono HB1.out.size)⟩
  generalize w1.alloc (.cells #[.pointer (some ⟨q, 0, none⟩), .func (.func Φ.g) #[] Φ.cb, .slice (some ⟨w.heap.size, 0, none⟩) m m, .int .i64 0, .int .i64 0] 77) = w2 at *
  have hB2 : Below w.heap.size w w2 := HB1.out.trans (hB.mono HB1.out.size)
  have hz := HZ1.out
  have lt : ∀ k ∈ ff ++ xs, k < w.heap.size := fun k hk => HF.out.lts hk
  refine ⟨[], ff, List.replicate m (.slice none 0 0), D, ?_⟩
  exact {
    fs := HF.out.mindNew hB2 (fun k hk => by
      simp only [List.mem_cons, List.nil_append] at hk
      rcases hk with h3 | h3 | h3
      · subst h3; exact .inr ⟨by omega, by omega⟩
      · subst h3; exact .inr ⟨by omega, by omega⟩
      · exact .inl h3)
    well := hw
    wnil := hn
    len := hl
    disk := hd
    dlen := hdl
    d512 := h5
    head := by rw [hP]; simp [Pl.made, Force.fv]
    row := (hB.block _ (by omega)).trans HG1.out
    vlen := by simp [Pl.made]
    byt := fun i f v h3 h4 => by
      have e3 := List.mem_of_getElem? h3
      have e4 := List.mem_of_getElem? h4
      obtain ⟨_, e3⟩ := List.mem_replicate.1 e3
      obtain ⟨_, e4⟩ := List.mem_replicate.1 e4
      exact .inl ⟨by rw [e3]; rfl, e4⟩
    pg := by omega
    pb := fun hm => by have := lt _ (by simpa using hm); omega
    gb := fun hm => by have := lt _ (by simpa using hm); omega
    bx := fun k hk => by simp at hk
    fx := hfx
    p0 := by have := HF.out.below.size; omega
    g0 := HF.out.below.size
    f0 := hf0
    fo := Φ.stay _ _ _ _ hs hB2.size (fun k hk => hB2.block k (lt k (by simp [hk])))
    f1 := by simpa [Pl.made] using h1
    f2 := by simpa [Pl.made] using h2
    hand := by simp [Pl.made]; omega
    lsn := fun f hf => by
      obtain ⟨_, e3⟩ := List.mem_replicate.1 hf
      rw [e3]
      simp [Fm.nil] }

/-! ### The sort -/
open Go.Sort hiding Below
def encD (x : Int × Int) : List Value := [.int .i64 x.1, .int .i64 x.2]
set_option maxHeartbeats 1000000 in
theorem less_any (x y : Int × Int) (W : World) : Calls Try.prog 38 #[.agg #[.int .i64 x.1, .int .i64 x.2], .agg #[.int .i64 y.1, .int .i64 y.2]] W fun e w' => e = .returned (.int .i64 (Lib.compareInt x.1 y.1)) ∧ ∃ q os', w' = grow (W.drewN q) os' := by
  have hcon := fun W' => AnyG.cmp_Compare_int Try.cmpInt x.1 y.1 W'
  change ∀ W', Calls Try.prog 39 _ _ _ at hcon
  generalize Lib.compareInt x.1 y.1 = r at hcon ⊢
  go_enter Try.func38, Try.ntmps38
  go_wp2_with (go_at_call 39; refine (hcon _).mono ?_; rintro e w' ⟨rfl, rfl⟩)
  go_ret
  exact ⟨rfl, 0, _, by rw [alloc_eq_grow, alloc_eq_grow, grow_grow]; rfl⟩
theorem len_any (n : Nat) (W : World) (h : n ≤ 12) : Calls Try.prog 51 #[.int .u64 n] W fun e w' => (∃ l : Int, e = .returned (.int .i64 l)) ∧ w' = W :=
  (Any.bits_Len Try.bitsLen n W (by omega) (by omega)).mono fun _ _ ⟨he, hw⟩ => ⟨⟨_, he⟩, hw⟩
theorem swoD : SWO (ltOf fun x y : Int × Int => Lib.compareInt x.1 y.1) := by
  have key : ∀ x y : Int × Int, ltOf (fun x y : Int × Int => Lib.compareInt x.1 y.1) x y = decide (x.1 < y.1) := fun x y => by
    simp only [ltOf, Lib.compareInt]
    split
    · simp [*]
    · split
      · simp [*]
      · simp [*]
  refine ⟨fun x => by rw [key]; simp, fun x y z h1 h2 => ?_, fun x y z h1 h2 => ?_⟩
  · rw [key] at h1 h2 ⊢; simp at h1 h2 ⊢; omega
  · rw [key] at h1 h2 ⊢; simp at h1 h2 ⊢; omega
theorem ltD (x y : Int × Int) : ltOf (fun x y : Int × Int => Lib.compareInt x.1 y.1) x y = decide (x.1 < y.1) := by
  simp only [ltOf, Lib.compareInt]
  split
  · simp [*]
  · split
    · simp [*]
    · simp [*]
theorem off_sort (w : World) (g off m : Nat) (d : Array (Int × Int)) (os : Array Obj) : Off [g] w (sortWorldK encD 2 w g off m d os) := by
  refine ⟨rfl, rfl, rfl, ?_, fun k hk hn => ?_⟩
  · simp [sortWorldK, grow, putRowK, putRow, mapBlock, Go.Sort.ahead]
  · have hne : ¬ g = k := fun e => hn (by simp [e])
    simp [sortWorldK, grow, putRowK, putRow, mapBlock, Go.Sort.ahead, Array.getElem?_append, hk, Array.getElem_modify, hne]
theorem sort_any (g cap : Nat) (d : Array (Int × Int)) (w : World) (hH : HoldsK encD 2 w g 0 d) (hg : g < w.heap.size) (h12 : d.size ≤ 12) :
    Calls Try.prog 37 #[.slice (some ⟨g, 0, none⟩) d.size cap, .func (.func 38) #[] #[]] w fun e w' => e = .returned (.tuple #[]) ∧ ∃ d' : Array (Int × Int), d'.toList.Perm d.toList ∧ d'.size = d.size ∧ d'.toList.Pairwise (fun x y => x.1 ≤ y.1) ∧ HoldsK encD 2 w' g 0 d' ∧ Off [g] w w' := by
  have eg : ∀ args w, (callFunc 38 args).run Try.prog w = .ok (.enter 38 args) w := enters_of Try.func38 (by kernel_rfl) rfl
  have hcmp : CmpLays Try.prog 38 #[] encD 2 (fun x y => Lib.compareInt x.1 y.1) g 0 d.size w := fun _ _ _ _ x y => less_any x y _
  have hcon := AnyQ.slices_SortFunc_small_sorted Try.sortD 2 Try.isAgg45 Try.sizeOf45 encD (fun _ => rfl) (fun x v hv => by simp [encD] at hv; rcases hv with rfl | rfl <;> rfl) (fun x y => Lib.compareInt x.1 y.1) 38 #[] swoD g 0 cap d w eg hcmp hH hg h12 len_any
  change Calls Try.prog 37 _ _ _ at hcon
  refine hcon.mono ?_
  rintro e w' ⟨rfl, d', n, os, hp, hs, rfl⟩
  obtain ⟨hp1, hp2, hp3⟩ := hp
  refine ⟨rfl, d', ?_, hp1, ?_, ?_, off_sort w g 0 n d' os⟩
  · have e1 : d'.extract 0 d.size = d' := by rw [← hp1]; simp
    have e2 : d.extract 0 d.size = d := by simp
    rw [e1, e2] at hp3
    exact hp3
  · rw [List.pairwise_iff_getElem]
    intro i j hi hj hij
    have := hs i j (Nat.zero_le _) hij (by rw [← hp1]; simpa using hj)
    rw [ltD, getElem!_pos d' j (by simpa using hj), getElem!_pos d' i (by simpa using hi)] at this
    simpa using this
  · have hb : g < (putRowK encD 2 (Go.Sort.ahead w n) g 0 d').heap.size := by
      have : (putRowK encD 2 (Go.Sort.ahead w n) g 0 d').heap.size = w.heap.size := by simp [putRowK, putRow, mapBlock, Go.Sort.ahead]
      omega
    exact holdsK_grow encD 2 _ _ _ _ _ hb (holdsK_putRowK encD 2 _ _ _ d d' (holdsK_ahead encD 2 _ _ _ _ _ hH) hp1)
end
end Go.Proofs.Ytifoafiidplpiaa
