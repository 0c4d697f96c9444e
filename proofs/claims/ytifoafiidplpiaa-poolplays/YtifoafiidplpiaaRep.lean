/- How a device lies in memory, and what stays as it was: 'DevAt', 'Off'; lists of rows of one length. -/
import Derived.Test.YtifoafiidplpiaaMake
import Derived.Test.YtifoafiidplpiaaSmall
import Derived.Laws.CopyOwn
namespace Go.Proofs.Ytifoafiidplpiaa
open Go.RowKit
set_option linter.unusedVariables false
set_option linter.unusedSimpArgs false

/-! ### Rows of one length, one behind the other -/
theorem flat_length {α : Type} (m : Nat) : ∀ X : List (List α), (∀ x ∈ X, x.length = m) → X.flatten.length = X.length * m
  | [], _ => by simp
  | x :: r, h => by
    rw [List.flatten_cons, List.length_append, flat_length m r (fun y hy => h y (by simp [hy])), h x (by simp), List.length_cons, Nat.add_mul]
    omega
theorem flat_get {α : Type} (m : Nat) : ∀ (X : List (List α)) (_ : ∀ x ∈ X, x.length = m) (i : Nat) (hi : i < X.length) (j : Nat) (_ : j < m), X.flatten[i * m + j]? = X[i][j]?
  | [], _, i, hi, _, _ => by simp at hi
  | x :: r, h, 0, _, j, hj => by
    rw [List.flatten_cons, Nat.zero_mul, Nat.zero_add, List.getElem?_append_left (by rw [h x (by simp)]; exact hj)]
    rfl
  | x :: r, h, i + 1, hi, j, hj => by
    have hx : x.length = m := h x (by simp)
    rw [List.flatten_cons, List.getElem?_append_right (by rw [hx, Nat.add_mul]; omega), hx, show (i + 1) * m + j - m = i * m + j by rw [Nat.add_mul]; omega,
      flat_get m r (fun y hy => h y (by simp [hy])) i (by simpa using hi) j hj]
    rfl
theorem flat_take {α : Type} (m : Nat) : ∀ (X : List (List α)) (_ : ∀ x ∈ X, x.length = m) (i : Nat), X.flatten.take (i * m) = (X.take i).flatten
  | [], _, i => by simp
  | x :: r, _, 0 => by simp
  | x :: r, h, i + 1 => by
    have hx : x.length = m := h x (by simp)
    rw [List.flatten_cons, List.take_succ_cons, List.flatten_cons, Nat.add_mul, Nat.one_mul, ← flat_take m r (fun y hy => h y (by simp [hy])) i]
    rw [List.take_append, hx, List.take_of_length_le (by omega)]
    congr 2
    omega
theorem flat_drop {α : Type} (m : Nat) : ∀ (X : List (List α)) (_ : ∀ x ∈ X, x.length = m) (i : Nat), X.flatten.drop (i * m) = (X.drop i).flatten
  | [], _, i => by simp
  | x :: r, _, 0 => by simp
  | x :: r, h, i + 1 => by
    have hx : x.length = m := h x (by simp)
    rw [List.flatten_cons, List.drop_succ_cons, Nat.add_mul, Nat.one_mul, ← flat_drop m r (fun y hy => h y (by simp [hy])) i]
    rw [List.drop_append, hx, List.drop_of_length_le (by omega), List.nil_append]
    congr 1
    omega
/-- One row laid over another. -/
theorem flat_set {α : Type} (m : Nat) (X : List (List α)) (h : ∀ x ∈ X, x.length = m) (i : Nat) (hi : i < X.length) (v : List α) (hv : v.length = m) :
    X.flatten.take (i * m) ++ v ++ X.flatten.drop (i * m + v.length) = (X.set i v).flatten := by
  rw [hv, flat_take m X h, show i * m + m = (i + 1) * m by rw [Nat.add_mul]; omega, flat_drop m X h, List.set_eq_take_append_cons_drop, if_pos hi]
  simp

theorem Try.size101 {s : List Value} (h : s.length = 128) : (Try.prog.info? 101).map (·.size) = some s.length := by rw [h]; kernel_rfl
theorem Try.size101' {s : Array Value} (h : s.size = 128) : (Try.prog.info? 101).map (·.size) = some s.size := by rw [h]; kernel_rfl
theorem Try.size116 {s : List Value} (h : s.length = 129) : (Try.prog.info? 116).map (·.size) = some s.length := by rw [h]; kernel_rfl
theorem Try.size116' {s : Array Value} (h : s.size = 129) : (Try.prog.info? 116).map (·.size) = some s.size := by rw [h]; kernel_rfl

/-! ### The device as data -/
structure Dv where
  L : List (List UInt8)
  W : List (Nat × List UInt8)
  fuse : Int
  dead : Bool
  calls : Int

def secCells (s : List UInt8) : List Value := s.map bcell
def rowCells (L : List (List UInt8)) : List Value := (L.map secCells).flatten
def entOf (x : Nat × List UInt8) : List Value := .int .i64 (x.1 : Int) :: secCells x.2
def entCells (W : List (Nat × List UInt8)) : List Value := (W.map entOf).flatten
theorem length_secCells (s : List UInt8) : (secCells s).length = s.length := by simp [secCells]
theorem one_secCells (s : List UInt8) : ∀ v ∈ secCells s, v.oneCell' = true := by
  intro v hv
  obtain ⟨b, _, rfl⟩ := List.mem_map.1 hv
  rfl
theorem one_entOf (x : Nat × List UInt8) : ∀ v ∈ entOf x, v.oneCell' = true := by
  intro v hv
  rcases List.mem_cons.1 hv with rfl | hv
  · rfl
  · exact one_secCells _ v hv

structure Dv.wf (D : Dv) : Prop where
  pos : 1 ≤ D.L.length
  max : D.L.length ≤ 8192
  sec : ∀ s ∈ D.L, s.length = 128
  ent : ∀ x ∈ D.W, x.1 < D.L.length ∧ x.2.length = 128
  lo : -9223372036854775808 ≤ D.fuse
  hi : D.fuse ≤ 9223372036854775807

theorem Dv.wf.rows {D : Dv} (h : D.wf) : ∀ x ∈ D.L.map secCells, x.length = 128 := by
  intro x hx
  obtain ⟨s, hs, rfl⟩ := List.mem_map.1 hx
  rw [length_secCells, h.sec s hs]
theorem Dv.wf.ents {D : Dv} (h : D.wf) : ∀ x ∈ D.W.map entOf, x.length = 129 := by
  intro x hx
  obtain ⟨s, hs, rfl⟩ := List.mem_map.1 hx
  simp [entOf, length_secCells, (h.ent s hs).2]

/-- All blocks but those of 'fp' are as they were. -/
structure Off (fp : List Nat) (w w' : World) : Prop where
  os : w'.os = w.os
  tape : w'.tape = w.tape
  output : w'.output = w.output
  size : w.heap.size ≤ w'.heap.size
  block : ∀ k, k < w.heap.size → k ∉ fp → w'.heap[k]? = w.heap[k]?

theorem Off.refl (fp : List Nat) (w : World) : Off fp w w := ⟨rfl, rfl, rfl, Nat.le_refl _, fun _ _ _ => rfl⟩
/-- Behind it another one, whose blocks are of the first's or new. -/
theorem Off.trans {fp fp' : List Nat} {a b c : World} (h : Off fp a b) (k : Off fp' b c) (hfp : ∀ i ∈ fp', i ∈ fp ∨ a.heap.size ≤ i) : Off fp a c :=
  ⟨k.os.trans h.os, k.tape.trans h.tape, k.output.trans h.output, Nat.le_trans h.size k.size, fun i hi hn =>
    (k.block i (Nat.lt_of_lt_of_le hi h.size) (fun hm => by rcases hfp i hm with h1 | h1; exact hn h1; omega)).trans (h.block i hi hn)⟩
theorem Off.mono {fp fp' : List Nat} {a b : World} (h : Off fp a b) (hs : ∀ i ∈ fp, i ∈ fp') : Off fp' a b :=
  ⟨h.os, h.tape, h.output, h.size, fun k hk hn => h.block k hk (fun hm => hn (hs k hm))⟩
theorem Off.below {fp : List Nat} {a b : World} (h : Off fp a b) {B : Nat} (hB : B ≤ a.heap.size) (hf : ∀ k ∈ fp, B ≤ k) : Below B a b :=
  ⟨h.os, h.tape, h.output, h.size, fun k hk => h.block k (by omega) (fun hm => by have := hf k hm; omega)⟩
theorem Off.of_below {a b : World} (h : Below a.heap.size a b) (fp : List Nat) : Off fp a b :=
  ⟨h.os, h.tape, h.output, h.size, fun k hk _ => h.block k hk⟩
theorem Off.alloc {fp : List Nat} {a w : World} (h : Off fp a w) (o : Obj) : Off fp a (w.alloc o) :=
  ⟨h.os, h.tape, h.output, by have := h.size; simp; omega, fun k hk hn => (Below.heap_alloc _ _ _ (Nat.lt_of_lt_of_le hk h.size)).trans (h.block k hk hn)⟩
theorem Off.drew {fp : List Nat} {a w : World} (h : Off fp a w) : Off fp a w.drew := ⟨h.os, h.tape, h.output, h.size, h.block⟩
theorem Off.setCell {fp : List Nat} {a w : World} (h : Off fp a w) (p : Addr) (u : Value) (hp : p.block ∈ fp ∨ a.heap.size ≤ p.block) : Off fp a (w.setCell p u) :=
  ⟨h.os, h.tape, h.output, by have := h.size; simpa [World.setCell] using this, fun k hk hn => (Below.heap_setCell _ _ _ _ (fun e => by subst e; rcases hp with hp | hp; exact hn hp; omega)).trans (h.block k hk hn)⟩
theorem Off.setRow {fp : List Nat} {a w : World} (h : Off fp a w) (g : Nat) (cs : Array Value) (hp : g ∈ fp ∨ a.heap.size ≤ g) : Off fp a (w.setRow g cs) :=
  ⟨h.os, h.tape, h.output, by have := h.size; simpa [World.setRow] using this, fun k hk hn => (setRow_other w g k cs (fun e => by subst e; rcases hp with hp | hp; exact hn hp; omega)).trans (h.block k hk hn)⟩
theorem Off.grown {fp : List Nat} {a w w' : World} {row : Option Nat} (h : Off fp a w) (hg : w.grownBy w' row) (hr : ∀ k, row = some k → k ∈ fp ∨ a.heap.size ≤ k) : Off fp a w' :=
  ⟨hg.os.trans h.os, hg.tape.trans h.tape, hg.output.trans h.output, Nat.le_trans h.size hg.size, fun k hk hn =>
    (hg.block k (Nat.lt_of_lt_of_le hk h.size) (fun e => by rcases hr k e.symm with h1 | h1; exact hn h1; omega)).trans (h.block k hk hn)⟩

/-- A row that is owned stays so if its block is as it was. -/
theorem owns_of_block {w w' : World} {e : TypeId} {size : Nat} {v : Value} {n : Nat} {xs : List Value} (h : w.ownsRow 0 e size v n xs) (hb : ∀ k, v.ownBlock = some k → w'.heap[k]? = w.heap[k]?) : w'.ownsRow 0 e size v n xs := by
  refine ⟨h.1, ?_⟩
  rcases h.2 with hn | ⟨g, cap, cur, rfl, hb', hgg, rest⟩
  · exact .inl hn
  · exact .inr ⟨g, cap, cur, rfl, hb', by rw [hb g rfl]; exact hgg, rest⟩

/-- The device D lies at block p; all its blocks are in fp. -/
structure DevIs (w : World) (p : Nat) (fp : List Nat) (D : Dv) (lb lcap : Nat) (cv : Value) : Prop where
  wf : D.wf
  head : w.heap[p]? = some (.cells #[.slice (some ⟨lb, 0, none⟩) D.L.length lcap, cv, .int .i64 D.fuse, .bool D.dead, .int .i64 D.calls] 71 (0, 0))
  row : w.ownsRow 0 101 128 (.slice (some ⟨lb, 0, none⟩) D.L.length lcap) D.L.length (rowCells D.L)
  cache : w.ownsRow 0 116 129 cv D.W.length (entCells D.W)
  ne1 : p ≠ lb
  ne2 : cv.ownBlock ≠ some p
  ne3 : cv.ownBlock ≠ some lb
  inP : p ∈ fp
  inL : lb ∈ fp
  inC : ∀ k, cv.ownBlock = some k → k ∈ fp
  lim : ∀ k ∈ fp, k < w.heap.size
def DevAt (w : World) (p : Nat) (fp : List Nat) (D : Dv) : Prop := ∃ lb lcap cv, DevIs w p fp D lb lcap cv

section
variable {w w' : World} {p lb lcap : Nat} {fp : List Nat} {D : Dv} {cv : Value}
theorem DevIs.c0 (h : DevIs w p fp D lb lcap cv) : w.cell? ⟨p, 0, none⟩ = some (.slice (some ⟨lb, 0, none⟩) D.L.length lcap) := by rw [cell_of_row w p 0 _ _ _ h.head]; rfl
theorem DevIs.c1 (h : DevIs w p fp D lb lcap cv) : w.cell? ⟨p, 1, none⟩ = some cv := by rw [cell_of_row w p 1 _ _ _ h.head]; rfl
theorem DevIs.c2 (h : DevIs w p fp D lb lcap cv) : w.cell? ⟨p, 2, none⟩ = some (.int .i64 D.fuse) := by rw [cell_of_row w p 2 _ _ _ h.head]; rfl
theorem DevIs.c3 (h : DevIs w p fp D lb lcap cv) : w.cell? ⟨p, 3, none⟩ = some (.bool D.dead) := by rw [cell_of_row w p 3 _ _ _ h.head]; rfl
theorem DevIs.c4 (h : DevIs w p fp D lb lcap cv) : w.cell? ⟨p, 4, none⟩ = some (.int .i64 D.calls) := by rw [cell_of_row w p 4 _ _ _ h.head]; rfl
theorem DevIs.fz (h : DevIs w p fp D lb lcap cv) (o : Nat) : w.frozen? ⟨p, o, none⟩ = false := frozen_of_row w p o _ _ h.head
theorem DevIs.lt (h : DevIs w p fp D lb lcap cv) : p < w.heap.size := (Array.getElem?_eq_some_iff.1 h.head).1
theorem DevIs.ltL (h : DevIs w p fp D lb lcap cv) : lb < w.heap.size := (h.row.lt lb rfl).2
theorem DevIs.ltC (h : DevIs w p fp D lb lcap cv) : ∀ k, cv.ownBlock = some k → k < w.heap.size := fun k hk => (h.cache.lt k hk).2
/-- The device stands where its three blocks are as they were. -/
theorem DevIs.stay (h : DevIs w p fp D lb lcap cv) (hs : w.heap.size ≤ w'.heap.size) (hb : ∀ k, (k = p ∨ k = lb ∨ cv.ownBlock = some k) → w'.heap[k]? = w.heap[k]?) : DevIs w' p fp D lb lcap cv :=
  ⟨h.wf, by rw [hb p (.inl rfl)]; exact h.head, owns_of_block h.row (fun k hk => hb k (.inr (.inl (by simpa [Value.ownBlock] using hk.symm)))), owns_of_block h.cache (fun k hk => hb k (.inr (.inr hk))), h.ne1, h.ne2, h.ne3, h.inP, h.inL, h.inC, fun k hk => Nat.lt_of_lt_of_le (h.lim k hk) hs⟩
/-- .. as they are below the heap's size. -/
theorem DevIs.below (h : DevIs w p fp D lb lcap cv) (hb : Below w.heap.size w w') : DevIs w' p fp D lb lcap cv :=
  h.stay hb.size fun k hk => hb.block k (by rcases hk with rfl | rfl | hk; exact h.lt; exact h.ltL; exact h.ltC k hk)
theorem DevIs.apart (h : DevIs w p fp D lb lcap cv) {fq : List Nat} (ho : Off fq w w') (hd : ∀ k ∈ fp, k ∉ fq) : DevIs w' p fp D lb lcap cv :=
  h.stay ho.size fun k hk => by
    rcases hk with rfl | rfl | hk
    · exact ho.block _ h.lt (hd _ h.inP)
    · exact ho.block _ h.ltL (hd _ h.inL)
    · exact ho.block _ (h.ltC k hk) (hd _ (h.inC k hk))
theorem DevAt.apart (h : DevAt w p fp D) {fq : List Nat} (ho : Off fq w w') (hd : ∀ k ∈ fp, k ∉ fq) : DevAt w' p fp D :=
  let ⟨_, _, _, x⟩ := h; ⟨_, _, _, x.apart ho hd⟩
theorem DevAt.below (h : DevAt w p fp D) (hb : Below w.heap.size w w') : DevAt w' p fp D :=
  let ⟨_, _, _, x⟩ := h; ⟨_, _, _, x.below hb⟩
theorem DevIs.more (h : DevIs w p fp D lb lcap cv) {fq : List Nat} (hs : ∀ k ∈ fp, k ∈ fq) (hl : ∀ k ∈ fq, k < w.heap.size) : DevIs w p fq D lb lcap cv :=
  ⟨h.wf, h.head, h.row, h.cache, h.ne1, h.ne2, h.ne3, hs _ h.inP, hs _ h.inL, fun k hk => hs _ (h.inC k hk), hl⟩
/-- A head with other numbers. -/
theorem DevIs.heads (h : DevIs w p fp D lb lcap cv) (j : Nat) (v : Value) (D' : Dv) (hL : D'.L = D.L) (hW : D'.W = D.W) (hf : D'.wf)
    (hc : (#[.slice (some ⟨lb, 0, none⟩) D.L.length lcap, cv, .int .i64 D.fuse, .bool D.dead, .int .i64 D.calls] : Array Value).setIfInBounds j v = #[.slice (some ⟨lb, 0, none⟩) D.L.length lcap, cv, .int .i64 D'.fuse, .bool D'.dead, .int .i64 D'.calls]) :
    DevIs (w.setCell ⟨p, j, none⟩ v) p fp D' lb lcap cv := by
  have hh := heap_setCell_same w p j _ _ v h.head
  rw [hc] at hh
  refine ⟨hf, by rw [hL]; exact hh, ?_, ?_, h.ne1, h.ne2, h.ne3, h.inP, h.inL, h.inC, fun k hk => by simpa [World.setCell] using h.lim k hk⟩
  · rw [hL]
    exact owns_of_block h.row (fun k hk => heap_setCell_other w _ k v (fun e => h.ne1 (by simp [Value.ownBlock] at hk e; omega)))
  · rw [hW]
    exact owns_of_block h.cache (fun k hk => heap_setCell_other w _ k v (fun e => h.ne2 (by rw [hk]; exact congrArg some e)))
theorem DevIs.form (h : DevIs w p fp D lb lcap cv) : (cv = .slice none 0 0 ∧ D.W = []) ∨ ∃ cb c, cv = .slice (some ⟨cb, 0, none⟩) D.W.length c := by
  rcases h.cache.2 with ⟨h1, h2⟩ | ⟨g, cap, cur, h1, _⟩
  · exact .inl ⟨h1, List.eq_nil_of_length_eq_zero h2⟩
  · exact .inr ⟨g, cap, h1⟩
theorem rangeAt_of_cells {w : World} {g o m : Nat} {xs ys : List Value} (hx : ∀ j u, xs[j]? = some u → w.cell? ((⟨g, 0, none⟩ : Addr).add j) = some u) (hy : ys.length = m) (hg : ∀ j, j < m → xs[o + j]? = ys[j]?) : w.rangeAt g o ys := by
  intro j v hv
  have hj : j < m := by rw [← hy]; exact (List.getElem?_eq_some_iff.1 hv).1
  have := hx (o + j) v (by rw [hg j hj]; exact hv)
  rwa [Addr.add_mid, Nat.zero_add] at this
theorem src_of_block {w : World} {g : Nat} {t : TypeId} {fr : Nat × Nat} {X : List Value} (h : w.heap[g]? = some (.cells X.toArray t fr)) : ∀ j v, X[j]? = some v → w.cell? ((⟨g, 0, none⟩ : Addr).add j) = some v := fun j v hv => by
  rw [Addr.add_mid, Nat.zero_add, cell_of_row w g j _ _ _ h]
  simpa using hv
/-- Sector i lies there. -/
theorem DevIs.secAt (h : DevIs w p fp D lb lcap cv) (i : Nat) (hi : i < D.L.length) : w.rangeAt lb (i * 128) (secCells D.L[i]) := by
  have hr := h.wf.rows
  refine rangeAt_of_cells (m := 128) (h.row.cells rfl) (by rw [length_secCells]; exact h.wf.sec _ (List.getElem_mem hi)) (fun j hj => ?_)
  unfold rowCells
  rw [flat_get 128 _ hr i (by simpa using hi) j hj]
  simp
/-- A write of the cache lies there. -/
theorem DevIs.entAt {cb c : Nat} (h : DevIs w p fp D lb lcap (.slice (some ⟨cb, 0, none⟩) D.W.length c)) (i : Nat) (hi : i < D.W.length) : w.rangeAt cb (i * 129) (entOf D.W[i]) := by
  have hr := h.wf.ents
  refine rangeAt_of_cells (m := 129) (h.cache.cells rfl) (by simp [entOf, length_secCells, (h.wf.ent _ (List.getElem_mem hi)).2]) (fun j hj => ?_)
  unfold entCells
  rw [flat_get 129 _ hr i (by simpa using hi) j hj]
  simp
theorem DevIs.entAt0 {cb c : Nat} (h : DevIs w p fp D lb lcap (.slice (some ⟨cb, 0, none⟩) D.W.length c)) (i : Nat) (hi : i < D.W.length) : w.cell? ⟨cb, i * 129, none⟩ = some (.int .i64 (D.W[i].1 : Int)) :=
  h.entAt i hi 0 _ rfl
theorem DevIs.entAt1 {cb c : Nat} (h : DevIs w p fp D lb lcap (.slice (some ⟨cb, 0, none⟩) D.W.length c)) (i : Nat) (hi : i < D.W.length) : w.rangeAt cb (i * 129 + 1) (secCells D.W[i].2) := fun j v hv => by
  have := h.entAt i hi (j + 1) v (by simpa [entOf] using hv)
  rwa [show i * 129 + 1 + j = i * 129 + (j + 1) by omega]
end
end Go.Proofs.Ytifoafiidplpiaa
