/- A table of locks in memory; what is wanted. -/
import Derived.Test.YtffjdjbjkjefoaaMapv
import Derived.Test.YtffjdjbjkjefoaaRMod
namespace Go.Proofs.Ytffjdjbjkjefoaa
open Go.RowKit Go.WideAt
set_option linter.unusedVariables false
set_option linter.unusedSimpArgs false

abbrev scell (s : List UInt8) : Value := .string (strOf s)
def NameOk (s : List UInt8) : Prop := s.length ≤ 281474976710656
theorem NameOk.max {s : List UInt8} (h : NameOk s) : s.length ≤ maxLen := by
  have : 281474976710656 ≤ maxLen := by decide
  exact Nat.le_trans h this
/-- Where a table lies: its block, its two maps', of each name its map's; of each transaction its slice of names. -/
structure Tb where
  t : Nat
  bo : Nat
  bf : Nat
  on : List UInt8 → Option Nat
  of : Int → Option Value
  nm : Int → List (List UInt8)
/-- A block that a table writes to. -/
def Tb.own (B : Tb) (k : Nat) : Prop := k = B.bo ∨ k = B.bf ∨ (∃ s, B.on s = some k) ∨ ∃ x v, B.of x = some v ∧ v.ownBlock = some k
/-- Who holds which mode on which name. -/
abbrev Held := Int → List UInt8 → Option Int
structure TabIs (w : World) (base : Nat) (B : Tb) (m : Held) (N : Nat) : Prop where
  cell : w.heap[B.t]? = some (.cells #[.map (some B.bo), .map (some B.bf)] 56 (0, 0))
  hon : MapV w 9 B.bo N (ofS fun s => (B.on s).map fun b => .map (some b))
  hof : MapV w 3 B.bf N (ofI B.of)
  inner : ∀ s b, B.on s = some b → MapV w 3 b N (ofI fun x => (m x s).map (Value.int .i64))
  non : ∀ s, B.on s = none → ∀ x, m x s = none
  nemp : ∀ s b, B.on s = some b → ∃ x, m x s ≠ none
  rows : ∀ x v, B.of x = some v → w.ownsRow base 9 1 v (B.nm x).length ((B.nm x).map scell)
  nrow : ∀ x, B.of x = none → B.nm x = []
  nodup : ∀ x, (B.nm x).Nodup
  names : ∀ x s, s ∈ B.nm x ↔ m x s ≠ none
  good : ∀ x s h, m x s = some h → isMode h = true ∧ In64 x ∧ NameOk s
  inj : ∀ s s' b, B.on s = some b → B.on s' = some b → s = s'
  apart : ∀ s b, B.on s = some b → b ≠ B.bo ∧ b ≠ B.bf
  two : B.bo ≠ B.bf
  rapart : ∀ x y v v' g, B.of x = some v → B.of y = some v' → v.ownBlock = some g → v'.ownBlock = some g → x = y
  low : base ≤ B.t ∧ base ≤ B.bo ∧ base ≤ B.bf ∧ ∀ s b, B.on s = some b → base ≤ b
  all : ∃ l : List (Int × List UInt8), l.length ≤ N ∧ ∀ x s, m x s ≠ none → (x, s) ∈ l
section
variable {w w' : World} {base : Nat} {B : Tb} {m : Held} {N : Nat}
theorem TabIs.lt (h : TabIs w base B m N) {k : Nat} (hk : k = B.t ∨ B.own k) : k < w.heap.size := by
  rcases hk with rfl | rfl | rfl | ⟨s, hs⟩ | ⟨x, v, hx, hv⟩
  · exact lt_of_heap h.cell
  · exact h.hon.lt
  · exact h.hof.lt
  · exact (h.inner s k hs).lt
  · exact ((h.rows x v hx).lt k hv).2
theorem TabIs.above (h : TabIs w base B m N) {k : Nat} (hk : k = B.t ∨ B.own k) : base ≤ k := by
  obtain ⟨h1, h2, h3, h4⟩ := h.low
  rcases hk with rfl | rfl | rfl | ⟨s, hs⟩ | ⟨x, v, hx, hv⟩
  · exact h1
  · exact h2
  · exact h3
  · exact h4 s k hs
  · exact ((h.rows x v hx).lt k hv).1
theorem TabIs.stay (h : TabIs w base B m N) (hs : ∀ k, (k = B.t ∨ B.own k) → w'.heap[k]? = w.heap[k]?) : TabIs w' base B m N :=
  { h with
    cell := (hs _ (.inl rfl)).trans h.cell
    hon := h.hon.stay (hs _ (.inr (.inl rfl)))
    hof := h.hof.stay (hs _ (.inr (.inr (.inl rfl))))
    inner := fun s b hb => (h.inner s b hb).stay (hs _ (.inr (.inr (.inr (.inl ⟨s, hb⟩)))))
    rows := fun x v hx => owns_stay (h.rows x v hx) fun k hk => hs _ (.inr (.inr (.inr (.inr ⟨x, v, hx, hk⟩)))) }
theorem TabIs.belowW (h : TabIs w base B m N) (hb : Below w.heap.size w w') : TabIs w' base B m N := h.stay fun k hk => hb.block k (h.lt hk)
theorem TabIs.mono (h : TabIs w base B m N) {N' : Nat} (hN : N ≤ N') : TabIs w base B m N' :=
  { h with
    hon := h.hon.mono hN
    hof := h.hof.mono hN
    inner := fun s b hb => (h.inner s b hb).mono hN
    all := let ⟨l, h1, h2⟩ := h.all; ⟨l, Nat.le_trans h1 hN, h2⟩ }
def onV (B : Tb) (s : List UInt8) : Value := .map (B.on s)
theorem TabIs.cells0 (h : TabIs w base B m N) : w.cell? ⟨B.t, 0, none⟩ = some (.map (some B.bo)) := by rw [cell_row h.cell]; rfl
theorem TabIs.cells1 (h : TabIs w base B m N) : w.cell? ⟨B.t, 1, none⟩ = some (.map (some B.bf)) := by rw [cell_row h.cell]; rfl
theorem TabIs.lookOn (h : TabIs w base B m N) {s : List UInt8} (hs : NameOk s) : (Instr.lookup 53 (.map (some B.bo)) (scell s) false).run Try.prog w = .ok (onV B s) w := by
  have := h.hon.look keyed9 Try.underlying53 (zero63 w) (key9 hs.max)
  unfold scell
  rw [this]
  show Result.ok (((B.on s).map fun b => Value.map (some b)).getD (.map none)) w = _
  unfold onV
  cases B.on s <;> rfl
theorem TabIs.lookIn (h : TabIs w base B m N) (s : List UInt8) {x : Int} (hx : In64 x) : (Instr.lookup 63 (onV B s) (.int .i64 x) false).run Try.prog w = .ok (.int .i64 ((m x s).getD 0)) w := by
  unfold onV
  cases hb : B.on s with
  | none =>
    rw [Maps.look_nil false keyed3 Try.underlying63 (zero3 w) (key3 hx), h.non s hb x]
    rfl
  | some b =>
    rw [(h.inner s b hb).look keyed3 Try.underlying63 (zero3 w) (key3 hx)]
    show Result.ok (((m x s).map (Value.int .i64)).getD (.int .i64 0)) w = _
    cases m x s <;> rfl
theorem TabIs.lookInOk (h : TabIs w base B m N) (s : List UInt8) {x : Int} (hx : In64 x) : (Instr.lookup 63 (onV B s) (.int .i64 x) true).run Try.prog w = .ok (.tuple #[.int .i64 ((m x s).getD 0), .bool (m x s).isSome]) w := by
  unfold onV
  cases hb : B.on s with
  | none =>
    rw [Maps.look_nil true keyed3 Try.underlying63 (zero3 w) (key3 hx), h.non s hb x]
    rfl
  | some b =>
    rw [(h.inner s b hb).look_ok keyed3 Try.underlying63 (zero3 w) (key3 hx)]
    show Result.ok (Value.tuple #[((m x s).map (Value.int .i64)).getD (.int .i64 0), .bool ((m x s).map (Value.int .i64)).isSome]) w = _
    cases m x s <;> rfl
end
/-- A slice of wants. -/
structure WantsAt (w : World) (a : Option Addr) (l : List (List UInt8 × Int)) : Prop where
  len : l.length ≤ 140737488355328
  at' : ∀ (i : Nat) (x : List UInt8 × Int), l[i]? = some x → NameOk x.1 ∧ In64 x.2 ∧ ∃ b o, a = some ⟨b, o, none⟩ ∧ b < w.heap.size ∧ w.rangeAt b (o + i * 2) [scell x.1, .int .i64 x.2]
theorem WantsAt.belowB {B : Nat} {w w' : World} {a : Option Addr} {l : List (List UInt8 × Int)} (h : WantsAt w a l) (hb : Below B w w') (hB : ∀ b o, a = some ⟨b, o, none⟩ → b < B) : WantsAt w' a l :=
  ⟨h.len, fun i x hx => by
    obtain ⟨h1, h2, b, o, e, h3, h4⟩ := h.at' i x hx
    refine ⟨h1, h2, b, o, e, Nat.lt_of_lt_of_le h3 hb.size, fun j u hu => ?_⟩
    exact (hb.cell (p := ⟨b, o + i * 2 + j, none⟩) (hB b o e)).trans (h4 j u hu)⟩
theorem WantsAt.belowW {w w' : World} {a : Option Addr} {l : List (List UInt8 × Int)} (h : WantsAt w a l) (hb : Below w.heap.size w w') : WantsAt w' a l :=
  ⟨h.len, fun i x hx => by
    obtain ⟨h1, h2, b, o, e, h3, h4⟩ := h.at' i x hx
    refine ⟨h1, h2, b, o, e, Nat.lt_of_lt_of_le h3 hb.size, fun j u hu => ?_⟩
    exact (hb.cell (p := ⟨b, o + i * 2 + j, none⟩) h3).trans (h4 j u hu)⟩
/-- What is asked for beside what is held. -/
def grow1 (m g : List UInt8 → Option Int) (a : List UInt8 × Int) : List UInt8 → Option Int :=
  if isMode a.2 = true then fun s => if s = a.1 then some (join (join ((m a.1).getD 0) ((g a.1).getD 0)) a.2) else g s else g
def grownF (m : List UInt8 → Option Int) (l : List (List UInt8 × Int)) : List UInt8 → Option Int := l.foldl (grow1 m) (fun _ => none)
theorem grownF_snoc (m : List UInt8 → Option Int) (l : List (List UInt8 × Int)) (x : List UInt8 × Int) : grownF m (l ++ [x]) = grow1 m (grownF m l) x := by unfold grownF; rw [List.foldl_append]; rfl
def intMap (g : List UInt8 → Option Int) : Lit → Option Value := ofS fun s => (g s).map (Value.int .i64)
theorem intMap_upd (g : List UInt8 → Option Int) (s : List UInt8) (v : Int) : updV (intMap g) (.string s) (.int .i64 v) = intMap (fun x => if x = s then some v else g x) := by
  unfold intMap
  rw [ofS_upd]
  congr 1
  funext x
  by_cases e : x = s
  · simp [e]
  · simp [e]
theorem Try.size31 : (Try.prog.info? 31).map (·.size) = some 2 := by kernel_rfl
theorem Try.isAgg3 (w : World) : (isAgg 3).run Try.prog w = .ok false w := by kernel_rfl
theorem Try.isAgg9 (w : World) : (isAgg 9).run Try.prog w = .ok false w := by kernel_rfl
theorem Try.isAgg53 (w : World) : (isAgg 53).run Try.prog w = .ok false w := by kernel_rfl
theorem Try.isAgg54 (w : World) : (isAgg 54).run Try.prog w = .ok false w := by kernel_rfl
theorem heap_alloc_new (w : World) (o : Obj) : (w.alloc o).heap[w.heap.size]? = some o := (MapKept.heap_alloc w o).1
end Go.Proofs.Ytffjdjbjkjefoaa
