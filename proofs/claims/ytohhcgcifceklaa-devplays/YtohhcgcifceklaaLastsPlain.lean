/- What outlasts a crash, on lists: the last write ahead of the sync, or one of the kept writes since. -/
import Derived.Test.YtohhcgcifceklaaSteps
namespace Go.Proofs.Ytohhcgcifceklaa
open Go.RowKit
set_option linter.unusedVariables false
set_option linter.unusedSimpArgs false

def wr1 (z : List Int) (k : Nat) : List (Nat × List UInt8) := (List.range k).map fun j => ((z.getD j 0 % 8).toNat, sec 1 ((j : Int) + 1))
theorem wr1_succ (z : List Int) (k : Nat) : wr1 z (k + 1) = wr1 z k ++ [((z.getD k 0 % 8).toNat, sec 1 ((k : Int) + 1))] := by
  simp only [wr1, List.range_succ, List.map_append, List.map_cons, List.map_nil]
theorem length_wr1 (z : List Int) (k : Nat) : (wr1 z k).length = k := by simp [wr1]
def wr2 (z : List Int) (k : Nat) : List (Nat × List UInt8) := (List.range k).map fun j => ((z.getD j 0 % 8).toNat, sec 2 (j : Int))
theorem wr2_succ (z : List Int) (k : Nat) : wr2 z (k + 1) = wr2 z k ++ [((z.getD k 0 % 8).toNat, sec 2 (k : Int))] := by
  simp only [wr2, List.range_succ, List.map_append, List.map_cons, List.map_nil]
theorem length_wr2 (z : List Int) (k : Nat) : (wr2 z k).length = k := by simp [wr2]
/-- The last write to sector s, counted from 1; 0: none. -/
def lastOf (z : List Int) : Nat → Nat → Nat
  | 0, _ => 0
  | k + 1, s => if (z.getD k 0 % 8).toNat = s then k + 1 else lastOf z k s
def oldOf (z : List Int) (k s : Nat) : List UInt8 := if 0 < lastOf z k s then sec 1 (lastOf z k s : Int) else zeros
theorem lastOf_le (z : List Int) (s : Nat) : ∀ k, lastOf z k s ≤ k
  | 0 => Nat.le_refl _
  | k + 1 => by
    unfold lastOf
    split
    · omega
    · have := lastOf_le z s k; omega
theorem length_oldOf (z : List Int) (k s : Nat) : (oldOf z k s).length = 128 := by
  unfold oldOf
  split
  · exact length_sec _ _
  · exact length_zeros
theorem mod8 (x : Int) : (x % 8).toNat < 8 ∧ ((x % 8).toNat : Int) = x % 8 := by omega
theorem laid_old (z : List Int) (s : Nat) (hs : s < 8) : ∀ k, (laidOver (List.replicate 8 zeros) (wr1 z k)).getD s [] = oldOf z k s
  | 0 => by
    show (List.replicate 8 zeros).getD s [] = oldOf z 0 s
    rw [List.getD_eq_getElem?_getD, List.getElem?_replicate, if_pos hs]
    rfl
  | k + 1 => by
    have ih := laid_old z s hs k
    rw [wr1_succ, laidOver_snoc]
    have hl : (laidOver (List.replicate 8 zeros) (wr1 z k)).length = 8 := by rw [length_laidOver]; simp
    have h8 := (mod8 (z.getD k 0)).1
    generalize laidOver (List.replicate 8 zeros) (wr1 z k) = L at *
    rw [List.getD_eq_getElem?_getD, List.getElem?_set] at *
    unfold oldOf lastOf
    by_cases e : (z.getD k 0 % 8).toNat = s
    · rw [if_pos e, if_pos e, if_pos (by omega), if_pos (by omega)]
      simp
    · rw [if_neg e, if_neg e]
      simpa [oldOf, List.getD_eq_getElem?_getD] using ih
/-- Behind a crash a sector is what it was, or a kept write. -/
theorem kept_cases (L : List (List UInt8)) (W : List (Nat × List UInt8)) (ks : List Bool) (s : Nat) (hW : ∀ x ∈ W, x.1 < L.length) : ∀ m, m ≤ W.length →
    (laidOver L (kept W ks m)).getD s [] = L.getD s [] ∨ ∃ j, j < m ∧ ks.getD j false = true ∧ ∃ x, W[j]? = some x ∧ x.1 = s ∧ (laidOver L (kept W ks m)).getD s [] = x.2
  | 0, _ => .inl rfl
  | m + 1, hm => by
    have ih := kept_cases L W ks s hW m (by omega)
    cases hk : ks.getD m false with
    | false =>
      rw [kept_no _ _ _ hk]
      rcases ih with h | ⟨j, hj, r⟩
      · exact .inl h
      · exact .inr ⟨j, by omega, r⟩
    | true =>
      have hmW : m < W.length := by omega
      rw [kept_yes _ _ _ hmW hk, laidOver_snoc]
      have hx := hW _ (List.getElem_mem hmW)
      have hl : (laidOver L (kept W ks m)).length = L.length := length_laidOver _ _
      generalize laidOver L (kept W ks m) = M at *
      by_cases e : W[m].1 = s
      · right
        refine ⟨m, by omega, hk, W[m], List.getElem?_eq_getElem hmW, e, ?_⟩
        rw [List.getD_eq_getElem?_getD, List.getElem?_set, if_pos e, if_pos (by omega)]
        rfl
      · have hn : (M.set W[m].1 W[m].2).getD s [] = M.getD s [] := by
          rw [List.getD_eq_getElem?_getD, List.getElem?_set, if_neg e, List.getD_eq_getElem?_getD]
        rw [hn]
        rcases ih with h | ⟨j, hj, r⟩
        · exact .inl h
        · exact .inr ⟨j, by omega, r⟩
/-- What the law's inner loop has found ahead of place i. -/
def hitTo (z : List Int) (ks : List Bool) (s : Nat) (x old : List UInt8) (i : Nat) : Bool :=
  decide (x = old) || (List.range i).any fun j => decide (z.getD j 0 % 8 = (s : Int)) && decide (j < ks.length) && ks.getD j false && decide (x = sec 2 (j : Int))
theorem hitTo_succ (z : List Int) (ks : List Bool) (s : Nat) (x old : List UInt8) (i : Nat) :
    hitTo z ks s x old (i + 1) = (hitTo z ks s x old i || (decide (z.getD i 0 % 8 = (s : Int)) && decide (i < ks.length) && ks.getD i false && decide (x = sec 2 (i : Int)))) := by
  simp only [hitTo, List.range_succ, List.any_append, List.any_cons, List.any_nil, Bool.or_false, Bool.or_assoc]
theorem hit_all (z z1 : List Int) (ks : List Bool) (k m s : Nat) (hs : s < 8) :
    hitTo z1 ks s ((laidOver (laidOver (List.replicate 8 zeros) (wr1 z k)) (kept (wr2 z1 m) ks m)).getD s []) (oldOf z k s) m = true := by
  have hl : (laidOver (List.replicate 8 zeros) (wr1 z k)).length = 8 := by rw [length_laidOver]; simp
  have hW : ∀ x ∈ wr2 z1 m, x.1 < (laidOver (List.replicate 8 zeros) (wr1 z k)).length := fun x hx => by
    obtain ⟨j, _, rfl⟩ := List.mem_map.1 hx
    rw [hl]
    exact (mod8 _).1
  have hc := kept_cases (laidOver (List.replicate 8 zeros) (wr1 z k)) (wr2 z1 m) ks s hW m (by rw [length_wr2]; exact Nat.le_refl _)
  rw [laid_old z s hs k] at hc
  generalize (laidOver (laidOver (List.replicate 8 zeros) (wr1 z k)) (kept (wr2 z1 m) ks m)).getD s [] = x at *
  unfold hitTo
  rcases hc with h | ⟨j, hj, hkj, y, hy, hys, hx⟩
  · simp [h]
  · rw [Bool.or_eq_true]
    right
    rw [List.any_eq_true]
    refine ⟨j, List.mem_range.2 hj, ?_⟩
    have hy2 : y = ((z1.getD j 0 % 8).toNat, sec 2 (j : Int)) := by
      simp only [wr2, List.getElem?_map, List.getElem?_range hj, Option.map_some, Option.some.injEq] at hy
      exact hy.symm
    subst hy2
    have hjk : j < ks.length := by
      by_cases h : j < ks.length
      · exact h
      · rw [List.getD_eq_getElem?_getD, List.getElem?_eq_none (by omega)] at hkj
        cases hkj
    have h8 := (mod8 (z1.getD j 0)).2
    have hys' : z1.getD j 0 % 8 = (s : Int) := by rw [← h8, ← hys]
    rw [hkj]
    simp [hjk, hx]
    simpa using hys'
theorem op_add1 (ρ : Operand → Value) (o : Oper) (x : Operand) (tt : TypeId) (ho : o.op = .binOp .add 3 x (.const (.int .i64 1)) tt) (hc : ρ (.const (.int .i64 1)) = .int .i64 1) (n : Int) (hx : ρ x = .int .i64 n) (h0 : 0 ≤ n) (h1 : n < 1000000) {w : World} : (execOp ρ o).run Try.prog w = .ok (.value (.int .i64 (n + 1))) w := by
  have hu := Try.underlying3
  have hw : IntKind.i64.wrap (n + 1) = n + 1 := by rw [IntKind.wrap_i64]; omega
  unfold execOp
  simp only [ho, hx, hc]
  simp [go_sem, hu, hw]
/-- The law's array 'last' behind k writes. -/
def lastArr (z : List Int) (k : Nat) : Array Value := ((List.range 8).map fun s => Value.int .i64 (lastOf z k s : Int)).toArray
theorem lastArr_zero (z : List Int) : lastArr z 0 = #[.int .i64 0, .int .i64 0, .int .i64 0, .int .i64 0, .int .i64 0, .int .i64 0, .int .i64 0, .int .i64 0] := by
  simp [lastArr, lastOf, List.range_succ]
theorem lastArr_at (z : List Int) (k s : Nat) (hs : s < 8) : (lastArr z k)[s]? = some (.int .i64 (lastOf z k s : Int)) := by
  simp [lastArr, hs]
theorem lastArr_succ (z : List Int) (k n : Nat) (hn : (z.getD k 0 % 8).toNat = n) : (lastArr z k).setIfInBounds n (.int .i64 ((k : Int) + 1)) = lastArr z (k + 1) := by
  apply Array.ext
  · simp [lastArr]
  · intro i h1 h2
    simp [lastArr] at h1 h2
    simp only [lastArr, List.setIfInBounds_toArray, List.getElem_toArray, List.getElem_set, List.getElem_map, List.getElem_range, lastOf, hn]
    by_cases e : n = i
    · rw [if_pos e, if_pos e]; simp
    · rw [if_neg e, if_neg e]
/-- A live device without a fuse. -/
def liveDev (L : List (List UInt8)) (W : List (Nat × List UInt8)) (c : Int) : Dv := ⟨L, W, -1, false, c⟩
theorem live_write (L : List (List UInt8)) (W : List (Nat × List UInt8)) (c i : Int) (bs : List UInt8) (h0 : 0 ≤ i) (hi : i < L.length) (hb : bs.length = 128) :
    (liveDev L W c).write i bs = (0, liveDev L (W ++ [(i.toNat, bs)]) (wrap64 (c + 1))) := by
  unfold Dv.write
  rw [if_neg (by simp [liveDev]), if_neg (by show ¬ ((i < 0 ∨ (L.length : Int) ≤ i) ∨ bs.length ≠ 128); omega), if_neg (by simp [liveDev])]
  simp [Dv.wrote, Dv.burnt, liveDev]
theorem live_sync (L : List (List UInt8)) (W : List (Nat × List UInt8)) (c : Int) : (liveDev L W c).sync = (0, liveDev (laidOver L W) [] (wrap64 (c + 1))) := by
  unfold Dv.sync
  rw [if_neg (by simp [liveDev]), if_neg (by simp [liveDev])]
  simp [Dv.synced, Dv.burnt, liveDev]
theorem live_crash (L : List (List UInt8)) (W : List (Nat × List UInt8)) (c : Int) (ks : List Bool) : (liveDev L W c).crashed ks = liveDev (laidOver L (kept W ks W.length)) [] c := by
  simp [Dv.crashed, liveDev]
theorem live_newest (L : List (List UInt8)) (c : Int) (s : Nat) : (liveDev L [] c).newest s = L.getD s [] := by
  simp [Dv.newest, liveDev]
end Go.Proofs.Ytohhcgcifceklaa
