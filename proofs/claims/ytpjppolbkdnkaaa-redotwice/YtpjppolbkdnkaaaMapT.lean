/- Maps from ints to transactions, as functions. -/
import Derived.Test.YtpjppolbkdnkaaaBehind
namespace Go.Proofs.Ytpjppolbkdnkaaa
open Go.RowKit Go.WideAt
set_option linter.unusedVariables false
set_option linter.unusedSimpArgs false

structure Tx where
  id : Int
  last : Int
  st : Int
def Tx.zero : Tx := ⟨0, 0, 0⟩
def txCells (x : Tx) : List Value := [.int .i64 x.id, .int .i64 x.last, .int .i64 x.st]
def rTl : List Value → Option (DataW Tx × List MemPlace)
  | [.int .i64 x, .int .i64 y, .int .i64 z] => some (.held ⟨x, y, z⟩, [])
  | _ => none
def rT : Value → Option (DataW Tx × List MemPlace)
  | .agg a => rTl a.toList
  | _ => none
theorem rT_mk (x : Tx) : rT (.agg (txCells x).toArray) = some (.held x, []) := rfl
theorem rT_inv {v : Value} {d : DataW Tx} {ps : List MemPlace} (h : rT v = some (d, ps)) : ∃ x : Tx, v = .agg (txCells x).toArray ∧ d = .held x := by
  unfold rT at h
  split at h
  · rename_i a
    unfold rTl at h
    split at h
    · rename_i x y z heq
      refine ⟨⟨x, y, z⟩, ?_, ?_⟩
      · congr 1
        exact Array.toList_inj.1 heq
      · injection h with h; exact (congrArg Prod.fst h).symm
    · cases h
  · cases h
theorem Try.zeroT (w : World) : (zeroValue 47).run Try.prog w = .ok (.agg (txCells Tx.zero).toArray) w := by kernel_rfl
/-- Block b is a map of at most n entries: f. -/
def MapT (w : World) (b n : Nat) (f : Int → Option Tx) : Prop :=
  ∃ D : DataW Tx, w.ownsMap Try.prog 3 rT b n D ∧ ∀ k, In64 k → Maps.has D (.int .i64 k) = (f k).isSome ∧ D.atKey (.int .i64 k) (.held Tx.zero) = .held ((f k).getD Tx.zero)
def updT (f : Int → Option Tx) (k : Int) (v : Tx) : Int → Option Tx := fun x => if x = k then some v else f x
def delT (f : Int → Option Tx) (k : Int) : Int → Option Tx := fun x => if x = k then none else f x
section
variable {w w' : World} {b n : Nat} {f : Int → Option Tx}
theorem MapT.made (w : World) : MapT (w.alloc (.map #[] 0)) w.heap.size 0 (fun _ => none) :=
  ⟨.map [], World.ownsMap_made _ _ _ _, fun k hk => ⟨rfl, rfl⟩⟩
theorem MapT.lt (h : MapT w b n f) : b < w.heap.size := let ⟨_, a, _⟩ := h; a.lt
theorem MapT.stay (h : MapT w b n f) (hb : w'.heap[b]? = w.heap[b]?) : MapT w' b n f := by
  obtain ⟨D, ⟨es, clock, h1, h2⟩, h3⟩ := h
  exact ⟨D, ⟨es, clock, hb.trans h1, h2⟩, h3⟩
theorem MapT.look (h : MapT w b n f) {k : Int} (hk : In64 k) : (Instr.lookup 67 (.map (some b)) (.int .i64 k) true).run Try.prog w = .ok (.tuple #[.agg (txCells ((f k).getD Tx.zero)).toArray, .bool (f k).isSome]) w := by
  obtain ⟨D, h1, h2⟩ := h
  obtain ⟨a1, a2⟩ := h2 k hk
  obtain ⟨v, ps, r1, r2⟩ := h1.look_ok keyedI Try.underlying67 (Try.zeroT w) (rT_mk Tx.zero) (keyI hk)
  obtain ⟨x, rfl, hx⟩ := rT_inv r2
  have hx2 : (f k).getD Tx.zero = x := by
    have h3 := a2.symm.trans hx
    injection h3
  rw [a1] at r1
  rw [hx2]
  exact r1
theorem MapT.store (h : MapT w b n f) (hn : n < 1000000000) {k : Int} (v : Tx) (hk : In64 k) : ∃ w', (Instr.mapUpdate 67 (.map (some b)) (.int .i64 k) (.agg (txCells v).toArray)).run Try.prog w = .ok () w' ∧ MapT w' b (n + 1) (updT f k v) ∧ w.grownBy w' (some b) := by
  obtain ⟨D, h1, h2⟩ := h
  obtain ⟨w', r1, r2, r3⟩ := h1.update keyedI Try.underlying67 (by simp only [maxLen]; omega) (keyI hk) (rT_mk v)
  refine ⟨w', r1, ⟨_, r2, fun x hx => ?_⟩, r3⟩
  unfold updT
  by_cases e : x = k
  · subst e
    rw [if_pos rfl]
    exact ⟨Maps.has_put_same h1.isMap (kl_int x) _, Maps.atKey_put_same h1.isMap (kl_int x) _ _⟩
  · rw [if_neg e]
    have hne : Lit.int .i64 x ≠ Lit.int .i64 k := fun h => e (by injection h)
    obtain ⟨a1, a2⟩ := h2 x hx
    exact ⟨by rw [Maps.has_put_other hne]; exact a1, by rw [Maps.atKey_put_other hne]; exact a2⟩
theorem MapT.len (h : MapT w b n f) : ∃ s : Nat, s ≤ n ∧ (∀ ty, (Builtin.len_ #[67] ty #[.map (some b)]).run Try.prog w = .ok (.int .i64 s) w) := by
  obtain ⟨D, h1, h2⟩ := h
  exact ⟨Maps.size D, World.ownsMap.size_le h1, fun ty => h1.len Try.underlying67 ty⟩
end
end Go.Proofs.Ytpjppolbkdnkaaa
