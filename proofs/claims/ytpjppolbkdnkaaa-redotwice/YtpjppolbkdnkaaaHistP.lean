/- history: steps that came in, and the state that it keeps. -/
import Derived.Test.YtpjppolbkdnkaaaAnalyze
import Derived.Test.YtpjppolbkdnkaaaROpen
import Derived.Test.YtpjppolbkdnkaaaComp
namespace Go.Proofs.Ytpjppolbkdnkaaa
open Go.RowKit
set_option linter.unusedVariables false
set_option linter.unusedSimpArgs false

theorem and_small (n : Int) (m : Nat) (hm : m ≤ 1000) : ∃ k : Nat, k ≤ m ∧ bits .and .i64 n (m : Int) = (k : Int) := by
  refine ⟨((BitVec.ofInt 64 n) &&& (BitVec.ofInt 64 (m : Int))).toNat, ?_, ?_⟩
  · rw [BitVec.toNat_and]
    refine Nat.le_trans Nat.and_le_right ?_
    rw [BitVec.toNat_ofInt]
    omega
  · have hle : ((BitVec.ofInt 64 n) &&& (BitVec.ofInt 64 (m : Int))).toNat ≤ m := by
      rw [BitVec.toNat_and]
      refine Nat.le_trans Nat.and_le_right ?_
      rw [BitVec.toNat_ofInt]
      omega
    show IntKind.i64.wrap ((((BitVec.ofInt 64 n) &&& (BitVec.ofInt 64 (m : Int))).toNat : Nat) : Int) = _
    generalize ((BitVec.ofInt 64 n) &&& (BitVec.ofInt 64 (m : Int))).toNat = k at hle
    unfold IntKind.wrap
    have h1 : ((k : Nat) : Int) % 2 ^ IntKind.i64.bits = (k : Int) := Int.emod_eq_of_lt (by omega) (by show (k : Int) < 2 ^ 64; omega)
    simp only [h1]
    rw [if_neg]
    intro h
    rw [Bool.and_eq_true] at h
    have := of_decide_eq_true h.2
    have h2 : (2 : Int) ^ (IntKind.i64.bits - 1) = 9223372036854775808 := by decide
    omega
structure St where
  kind : Int
  txn : Int
  page : Int
  off : Int
def stCells (x : St) : List Value := [.int .i64 x.kind, .int .i64 x.txn, .int .i64 x.page, .int .i64 x.off]
def StepsIn (w : World) (a : Option Addr) (X : List St) : Prop := ∀ (i : Nat) (x : St), X[i]? = some x → ∃ b o, a = some ⟨b, o, none⟩ ∧ b < w.heap.size ∧ w.rangeAt b (o + i * 4) (stCells x)
theorem StepsIn.below {w w' : World} {a : Option Addr} {X : List St} (h : StepsIn w a X) (hb : Below w.heap.size w w') : StepsIn w' a X := fun i x hx => by
  obtain ⟨b, o, h1, h2, h3⟩ := h i x hx
  exact ⟨b, o, h1, Nat.lt_of_lt_of_le h2 hb.size, fun j v hv => (hb.cell (p := ⟨b, o + i * 4 + j, none⟩) h2).trans (h3 j v hv)⟩
/-- What history keeps: the log, the last LSN, the end, what may be undone (places in the log), by transaction. -/
structure Hs where
  L : List Ln
  last : List Int
  done : List Bool
  todo : List (List Int)
def tOf (x : St) : Nat := (bits .and .i64 x.txn 3).toNat + 1
theorem tOf_le (x : St) : 1 ≤ tOf x ∧ tOf x ≤ 4 := by
  obtain ⟨k, h1, h2⟩ := and_small x.txn 3 (by omega)
  have h2 : bits .and .i64 x.txn 3 = (k : Int) := h2
  unfold tOf
  rw [h2]
  omega
theorem Try.size66n : (Try.prog.info? 66).map (·.size) = some 4 := by kernel_rfl
def intsV (l : List Int) : List Value := l.map (.int .i64)
def boolsV (l : List Bool) : List Value := l.map .bool
/-- The blocks of a list of values. -/
def ownsL (tv : List Value) : List Nat := tv.flatMap fun v => v.ownBlock.toList
/-- history's memory: g4, g5, g6: the arrays; v3: the log; tv: the slices of todo. -/
structure HistIs (w0 w : World) (g4 g5 g6 : Nat) (v3 : Value) (tv : List Value) (S : Hs) (K : List (Nat × Obj)) : Prop where
  h4 : w.heap[g4]? = some (.cells (intsV S.last).toArray 62 (0, 0))
  h5 : w.heap[g5]? = some (.cells (boolsV S.done).toArray 63 (0, 0))
  h6 : w.heap[g6]? = some (.cells tv.toArray 64 (0, 0))
  n4 : S.last.length = 5
  n5 : S.done.length = 5
  n6 : tv.length = 5
  nt : S.todo.length = 5
  rows : ∀ (t : Nat) (v : Value) (l : List Int), tv[t]? = some v → S.todo[t]? = some l → w.ownsRow w0.heap.size 3 1 v l.length (intCells l)
  lines : w.ownsRow w0.heap.size 34 12 v3 S.L.length (lnRow S.L)
  keep : ∀ p ∈ K, w.heap[p.1]? = some p.2 ∧ w0.heap.size ≤ p.1
  below : Below w0.heap.size w0 w
  b4 : w0.heap.size ≤ g4
  b5 : w0.heap.size ≤ g5
  b6 : w0.heap.size ≤ g6
  nd : (g4 :: g5 :: g6 :: (v3.ownBlock.toList ++ ownsL tv ++ K.map Prod.fst)).Nodup
theorem ownsL_mem {tv : List Value} {k : Nat} : k ∈ ownsL tv ↔ ∃ v ∈ tv, v.ownBlock = some k := by
  unfold ownsL
  rw [List.mem_flatMap]
  constructor
  · rintro ⟨v, hv, hk⟩; exact ⟨v, hv, by simpa using hk⟩
  · rintro ⟨v, hv, hk⟩; exact ⟨v, hv, by simp [hk]⟩
section
variable {w0 w w' : World} {g4 g5 g6 : Nat} {v3 : Value} {tv : List Value} {S : Hs} {K : List (Nat × Obj)}
/-- Every block of history's. -/
def hblocks (g4 g5 g6 : Nat) (v3 : Value) (tv : List Value) (K : List (Nat × Obj)) : List Nat := g4 :: g5 :: g6 :: (v3.ownBlock.toList ++ ownsL tv ++ K.map Prod.fst)
theorem HistIs.lt (x : HistIs w0 w g4 g5 g6 v3 tv S K) : ∀ k ∈ hblocks g4 g5 g6 v3 tv K, k < w.heap.size := fun k hk => by
  unfold hblocks at hk
  simp only [List.mem_cons, List.mem_append] at hk
  rcases hk with rfl | rfl | rfl | (hk | hk) | hk
  · exact (Array.getElem?_eq_some_iff.1 x.h4).1
  · exact (Array.getElem?_eq_some_iff.1 x.h5).1
  · exact (Array.getElem?_eq_some_iff.1 x.h6).1
  · exact (x.lines.lt k (by simpa using hk)).2
  · obtain ⟨v, hv, hk⟩ := ownsL_mem.1 hk
    obtain ⟨t, ht, he⟩ := List.getElem_of_mem hv
    have ht5 : t < 5 := by rw [← x.n6]; exact ht
    obtain ⟨l, hl⟩ : ∃ l, S.todo[t]? = some l := ⟨_, List.getElem?_eq_getElem (by rw [x.nt]; exact ht5)⟩
    exact ((x.rows t v l (by rw [← he]; exact List.getElem?_eq_getElem ht) hl).lt k hk).2
  · obtain ⟨p, hp, rfl⟩ := List.mem_map.1 hk
    exact (Array.getElem?_eq_some_iff.1 (x.keep p hp).1).1
/-- All of its blocks are as they were. -/
theorem HistIs.stay (x : HistIs w0 w g4 g5 g6 v3 tv S K) (hb : ∀ k ∈ hblocks g4 g5 g6 v3 tv K, w'.heap[k]? = w.heap[k]?) (hbl : Below w0.heap.size w0 w') : HistIs w0 w' g4 g5 g6 v3 tv S K where
  h4 := (hb g4 (by simp [hblocks])).trans x.h4
  h5 := (hb g5 (by simp [hblocks])).trans x.h5
  h6 := (hb g6 (by simp [hblocks])).trans x.h6
  n4 := x.n4
  n5 := x.n5
  n6 := x.n6
  nt := x.nt
  rows := fun t v l h1 h2 => owns_of_blockB (x.rows t v l h1 h2) (fun k hk => hb k (by
    have : k ∈ ownsL tv := ownsL_mem.2 ⟨v, List.mem_of_getElem? h1, hk⟩
    simp [hblocks, this]))
  lines := owns_of_blockB x.lines (fun k hk => hb k (by simp [hblocks, hk]))
  keep := fun p hp => ⟨(hb p.1 (by
    have : p.1 ∈ K.map Prod.fst := List.mem_map_of_mem hp
    unfold hblocks
    exact List.mem_cons_of_mem _ (List.mem_cons_of_mem _ (List.mem_cons_of_mem _ (List.mem_append_right _ this))))).trans (x.keep p hp).1, (x.keep p hp).2⟩
  below := hbl
  b4 := x.b4
  b5 := x.b5
  b6 := x.b6
  nd := x.nd
theorem HistIs.stayD (x : HistIs w0 w g4 g5 g6 v3 tv S K) (hb : Below w.heap.size w w') : HistIs w0 w' g4 g5 g6 v3 tv S K :=
  x.stay (fun k hk => hb.block k (x.lt k hk)) (x.below.trans (hb.mono x.below.size))
end
end Go.Proofs.Ytpjppolbkdnkaaa
