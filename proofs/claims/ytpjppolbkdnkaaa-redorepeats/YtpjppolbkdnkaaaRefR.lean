/- The document's Redo: its walk. -/
import Derived.Test.YtpjppolbkdnkaaaRefP
namespace Go.Proofs.Ytpjppolbkdnkaaa
open Go.RowKit
set_option linter.unusedVariables false
set_option linter.unusedSimpArgs false

def pgCells (x : Int × Int) : List Value := [.int .i64 x.1, .int .i64 x.2]
def pgRow (l : List (Int × Int)) : List Value := l.flatMap pgCells
theorem pgRow_len (l : List (Int × Int)) : (pgRow l).length = l.length * 2 := by
  unfold pgRow
  rw [List.flatMap_def, flat_length 2 _ (fun y hy => by obtain ⟨z, _, rfl⟩ := List.mem_map.1 hy; rfl), List.length_map]
theorem pgRow_get (l : List (Int × Int)) (i : Nat) (x : Int × Int) (h : l[i]? = some x) : (pgRow l)[i * 2]? = some (.int .i64 x.1) ∧ (pgRow l)[i * 2 + 1]? = some (.int .i64 x.2) := by
  obtain ⟨hi, rfl⟩ := List.getElem?_eq_some_iff.1 h
  have hl : ∀ y ∈ l.map pgCells, y.length = 2 := fun y hy => by obtain ⟨z, _, rfl⟩ := List.mem_map.1 hy; rfl
  have h0 := flat_get 2 (l.map pgCells) hl i (by rw [List.length_map]; exact hi) 0 (by omega)
  have h1 := flat_get 2 (l.map pgCells) hl i (by rw [List.length_map]; exact hi) 1 (by omega)
  unfold pgRow
  rw [List.flatMap_def]
  rw [Nat.add_zero] at h0
  rw [h0, h1, List.getElem_map]
  exact ⟨rfl, rfl⟩
theorem pg_cells {w : World} {base : Nat} {g c : Nat} {l : List (Int × Int)} (h : w.ownsRow base 52 2 (.slice (some ⟨g, 0, none⟩) l.length c) l.length (pgRow l)) (i : Nat) (x : Int × Int) (hx : l[i]? = some x) :
    w.cell? ⟨g, i * 2, none⟩ = some (.int .i64 x.1) ∧ w.cell? ⟨g, i * 2 + 1, none⟩ = some (.int .i64 x.2) := by
  have hi := (List.getElem?_eq_some_iff.1 hx).1
  obtain ⟨g', c', cur, e, _, hg, _, _, _, ht⟩ := own_some h (by omega)
  injection e with e1 e2 e3
  injection e1 with e1
  injection e1 with e1 _
  subst e1
  obtain ⟨a1, a2⟩ := pgRow_get l i x hx
  rw [← ht, List.getElem?_take, if_pos (by omega)] at a1
  rw [← ht, List.getElem?_take, if_pos (by omega)] at a2
  exact ⟨by rw [cell_of_row _ _ _ _ _ _ hg]; simpa using a1, by rw [cell_of_row _ _ _ _ _ _ hg]; simpa using a2⟩
/-- One page's LSN is another. -/
theorem pg_set {w : World} {base : Nat} {g c : Nat} {l : List (Int × Int)} (h : w.ownsRow base 52 2 (.slice (some ⟨g, 0, none⟩) l.length c) l.length (pgRow l)) (i : Nat) (x : Int × Int) (hx : l[i]? = some x) (v : Int) :
    (w.setCell ⟨g, i * 2 + 1, none⟩ (.int .i64 v)).ownsRow base 52 2 (.slice (some ⟨g, 0, none⟩) l.length c) l.length (pgRow (l.set i (x.1, v))) ∧ w.frozen? ⟨g, i * 2 + 1, none⟩ = false := by
  obtain ⟨hi, rfl⟩ := List.getElem?_eq_some_iff.1 hx
  obtain ⟨g', c', cur, e, hb, hg, h1, h2, h3, ht⟩ := own_some h (by omega)
  injection e with e1 e2 e3
  injection e1 with e1
  injection e1 with e1 _
  subst e1; subst e3
  refine ⟨⟨by rw [pgRow_len, List.length_set], .inr ⟨g, c, cur.setIfInBounds (i * 2 + 1) (.int .i64 v), rfl, hb, heap_setCell_same w g _ cur 52 _ hg, h1, h2, by simpa using h3, ?_⟩⟩, frozen_of_row _ _ _ _ _ hg⟩
  rw [Array.toList_setIfInBounds, List.take_set, ht]
  unfold pgRow
  have hl : ∀ y ∈ l.map pgCells, y.length = 2 := fun y hy => by obtain ⟨z, _, rfl⟩ := List.mem_map.1 hy; rfl
  rw [List.flatMap_def, List.flatMap_def, flat_set1 2 (.int .i64 v) (l.map pgCells) hl i (by rw [List.length_map]; exact hi) 1 (by omega), List.map_set, List.getElem_map]
  rfl
theorem Try.info52 : (Try.prog.info? 52).map (fun i => (i.zero, i.size, i.bytes)) = some (some (.agg (pgCells (0, 0)).toArray), 2, 16) := by kernel_rfl
theorem nilnil (ty : TypeId) (w : World) : (Builtin.append_ #[50, 50] ty #[.slice none 0 0, .slice none 0 0]).run Try.prog w = .ok (.slice none 0 0) w := by kernel_rfl
theorem wpList_append_copy {ops : Array Oper} {rest : List Oper} {o : Oper} {a : Act} {w : World} {Q : Exit → Act → World → Prop} (hg : o.guard = none) (s x : Operand)
    (hop : o.op = Op.call { callee := Callee.builtin Builtin.append, args := #[s, x], argTypes := #[50, 50] }) (pv : Value) (P : List (Int × Int)) (hs : a.eval s = .slice none 0 0) (hx : a.eval x = pv) (hP : w.ownsRow 0 52 2 pv P.length (pgRow P)) (hP0 : P = [] → pv = .slice none 0 0) (hPl : P.length ≤ 1000)
    (hK : ∀ v' w', w'.ownsRow w.heap.size 52 2 v' P.length (pgRow P) → Below w.heap.size w w' → wpList Try.prog ops Q rest (a.put o.dst v') w') : wpList Try.prog ops Q (o :: rest) a w := by
  by_cases h0 : P = []
  · have hpv := hP0 h0
    subst h0
    refine wpList_plain hg fun K hK' => ?_
    unfold Oper.wp
    rw [hpv] at hx
    have hrun := nilnil o.type w
    simp [execOp, hop, resolve, invoke, builtin, hs, hx, hrun, Result.andThen]
    exact hK' _ _ (hK _ w ⟨rfl, .inl ⟨rfl, rfl⟩⟩ (Below.refl _ _))
  · have hne : P.length ≠ 0 := fun e => h0 (List.length_eq_zero_iff.1 e)
    obtain ⟨g, c, cur, hv, _, hgg, q1, q2, q3, q4⟩ := own_some hP hne
    refine wpList_append_owned hg s x 50 hop 52 (.agg (pgCells (0, 0)).toArray) 2 16 Try.underlying50 Try.info52 rfl (by omega) (.slice none 0 0) 0 [] hs (owns_zero (World.ownsRow_nil w w.heap.size 52 2)) ⟨g, 0, none⟩ P.length c (pgRow P) (by rw [hx, hv]) (pgRow_len P) (fun j u hu => ?_) (fun u hu => ?_) (by simp only [maxLen]; omega) (by omega) (fun v' w' r1 r2 r3 => ?_)
    · rw [Addr.add_mid, Nat.zero_add, cell_of_row _ _ _ _ _ _ hgg, ← Array.getElem?_toList]
      rw [← q4] at hu
      have := (List.getElem?_eq_some_iff.1 hu).1
      rw [List.length_take] at this
      rwa [List.getElem?_take_of_lt (by omega)] at hu
    · unfold pgRow at hu
      obtain ⟨z, _, hz⟩ := List.mem_flatMap.1 hu
      simp [pgCells] at hz
      rcases hz with rfl | rfl <;> rfl
    · rw [Nat.zero_add, List.nil_append] at r1
      refine hK v' w' (owns_base r1 (fun k hk => ?_)) ⟨r2.os, r2.tape, r2.output, r2.size, fun k hk => r2.block k hk (by simp [Value.ownBlock])⟩
      rcases r3 k hk with h | h
      · simp [Value.ownBlock] at h
      · exact h
theorem refN_snoc (D : List (Int × Int)) (s : List (Int × Int) × List Int) (L : List Ln) (x : Ln) : refN D s (L ++ [x]) = ref1 D (refN D s L) x := by unfold refN; rw [List.foldl_append]; rfl
theorem ref1_len (D : List (Int × Int)) (s : List (Int × Int) × List Int) (x : Ln) : (ref1 D s x).1.length ≤ s.1.length + 1 ∧ (ref1 D s x).2.length ≤ s.2.length + 1 := by
  unfold ref1
  split
  · simp only
    split <;> split <;> simp
  · exact ⟨by omega, by omega⟩
theorem refN_len (D : List (Int × Int)) : ∀ (L : List Ln) (s : List (Int × Int) × List Int), (refN D s L).1.length ≤ s.1.length + L.length ∧ (refN D s L).2.length ≤ s.2.length + L.length
  | [], s => ⟨by simp [refN], by simp [refN]⟩
  | x :: L, s => by
    have h1 := refN_len D L (ref1 D s x)
    have h2 := ref1_len D s x
    have e : refN D s (x :: L) = refN D (ref1 D s x) L := rfl
    rw [e, List.length_cons]
    omega
def Goes (D : List (Int × Int)) (x : Ln) : Prop := x.changes = true ∧ (lastOf D x.page D.length).isSome = true ∧ ¬ (lastOf D x.page D.length).getD 0 > x.lsn
theorem ref1_abs (D : List (Int × Int)) (S : List (Int × Int) × List Int) (x : Ln) (hc : Goes D x) (m : Nat) (hm : S.1.length = m) (h : lastIdx S.1 x.page m = -1) :
    ref1 D S x = if 0 < x.lsn then ((S.1 ++ [(x.page, 0)]).set m (x.page, x.lsn), S.2 ++ [x.lsn]) else (S.1 ++ [(x.page, 0)], S.2) := by
  subst hm
  have hat : (S.1 ++ [(x.page, (0 : Int))])[S.1.length]? = some (x.page, 0) := by simp
  unfold Goes at hc
  unfold ref1
  rw [if_pos hc, h]
  simp only [show ((-1 : Int) < 0) = True from by simp, if_true, hat, Option.getD_some]
theorem ref1_pre (D : List (Int × Int)) (S : List (Int × Int) × List Int) (x : Ln) (hc : Goes D x) (m : Nat) (hm : S.1.length = m) (a : Nat) (d : Int × Int) (h : lastIdx S.1 x.page m = (a : Int)) (hd : S.1[a]? = some d) :
    ref1 D S x = if d.2 < x.lsn then (S.1.set a (d.1, x.lsn), S.2 ++ [x.lsn]) else S := by
  subst hm
  unfold ref1
  have hn0 : ¬ ((a : Int) < 0) := by omega
  unfold Goes at hc
  rw [if_pos hc, h]
  simp only [hn0, if_false, Int.toNat_natCast, hd, Option.getD_some]
theorem Try.buildIntS (l : Int) (w : World) : (Instr.buildSlice 49 1 #[(0, .int .i64 l)]).run Try.prog w = .ok (.slice (some ⟨w.heap.size, 0, none⟩) 1 1) (w.alloc (.cells #[.int .i64 l] 3)) := by kernel_rfl
end Go.Proofs.Ytpjppolbkdnkaaa
