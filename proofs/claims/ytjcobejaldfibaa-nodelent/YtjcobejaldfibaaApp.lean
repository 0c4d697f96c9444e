/- A string's bytes, and noughts, appended to bytes of the call's own. -/
import Derived.Test.YtjcobejaldfibaaPrs
import Derived.Test.YtjcobejaldfibaaCat
import Derived.Lib.AppendZerosOnto
namespace Go.Proofs.Ytjcobejaldfibaa
open Go.RowKit
set_option linter.unusedVariables false
set_option linter.unusedSimpArgs false

theorem byteCells_strOf (s : List UInt8) : byteCells (strOf s) = secCells s := rfl
theorem firstCells_row {w : World} {g cap n : Nat} {cur : Array Value} {xs : List Value} (hg : w.heap[g]? = some (.cells cur 5 (0, 0))) (hl : xs.length = n) (ht : cur.toList.take n = xs) : (Builtin.firstCells 1 n (.slice (some ⟨g, 0, none⟩) n cap)).run Try.prog w.drew = .ok xs.toArray w.drew := by
  have := run_loadCells_list (P := Try.prog) w.drew ⟨g, 0, none⟩ xs (fun j u hu => by
    rw [Addr.add_mid, Nat.zero_add]
    show w.cell? _ = _
    rw [cell_row hg]
    rw [← ht] at hu
    have hj := (List.getElem?_eq_some_iff.1 hu).1
    rw [List.length_take] at hj
    rw [List.getElem?_take_of_lt (by omega)] at hu
    simpa using hu)
  rw [hl] at this
  simpa [Builtin.firstCells, Nat.mul_one] using this
theorem own_place {w : World} {base g n m cap : Nat} {cur : Array Value} {xs news : List Value} (hb : base ≤ g) (hg : w.heap[g]? = some (.cells cur 5 (0, 0))) (hl : xs.length = n) (ht : cur.toList.take n = xs) (hc : cur.size = cap) (hcm : cap ≤ maxLen) (hm : news.length = m) (hr : n + m ≤ cap) :
    (w.setRow g (cur.toList.take n ++ news ++ cur.toList.drop (n + news.length)).toArray).ownsRow base 5 1 (.slice (some ⟨g, 0, none⟩) (n + m) cap) (n + m) (xs ++ news) ∧ w.grownBy (w.setRow g (cur.toList.take n ++ news ++ cur.toList.drop (n + news.length)).toArray) (some g) := by
  refine ⟨⟨by rw [List.length_append]; omega, .inr ⟨g, cap, _, rfl, hb, setRow_heap w g cur _ 5 _ hg, hr, hcm, ?_, ?_⟩⟩, ⟨rfl, rfl, rfl, by simp, fun k _ hk => setRow_other w g k _ (fun e => hk (by simp [e]))⟩⟩
  · simp only [List.size_toArray, List.length_append, List.length_take, List.length_drop, Array.length_toList]
    omega
  · rw [ht]
    have : (n + m) * 1 = (xs ++ news).length := by rw [List.length_append]; omega
    rw [this]
    exact List.take_left
theorem own_grown {w : World} {base n m old : Nat} {xs news : List Value} (hb : base ≤ w.heap.size) (hl : xs.length = n) (hm : news.length = m) (h63 : n + m ≤ maxLen) (cs : Array Value) (hcs : cs = (xs ++ news).toArray ++ Builtin.zeroCells (Value.cells (.int .u8 0)) (grownCap w (n + m) old 5 - (n + m))) (row : Option Nat) :
    (w.drew.alloc (.cells cs 5)).ownsRow base 5 1 (.slice (some ⟨w.heap.size, 0, none⟩) (n + m) (grownCap w (n + m) old 5)) (n + m) (xs ++ news) ∧ w.grownBy (w.drew.alloc (.cells cs 5)) row := by
  have hge := grownCap_ge w (n + m) old 5
  have hcm : grownCap w (n + m) old 5 ≤ maxLen := grownCap_le_maxLen w (n + m) old 5 h63
  refine ⟨⟨by rw [List.length_append]; omega, .inr ⟨w.heap.size, _, _, rfl, hb, heap_alloc_new w.drew _, hge, hcm, ?_, ?_⟩⟩, ⟨rfl, rfl, rfl, by simp, fun k hk _ => Below.heap_alloc w.drew _ k hk⟩⟩
  · rw [hcs, Array.size_append, size_zeroCells _ _ rfl]
    simp
    omega
  · rw [hcs, Array.toList_append]
    have : (n + m) * 1 = (xs ++ news).length := by rw [List.length_append]; omega
    rw [this]
    exact List.take_left
theorem run_append_str (w : World) (base : Nat) (ty : TypeId) (v : Value) (n : Nat) (xs : List Value) (h : w.ownsRow base 5 1 v n xs) (s : List UInt8) (hs : n + s.length ≤ 140737488355328) (hb : base ≤ w.heap.size) :
    ∃ v' w', (Builtin.append_ #[28, 9] ty #[v, .string (strOf s)]).run Try.prog w = .ok v' w' ∧ w'.ownsRow base 5 1 v' (n + s.length) (xs ++ secCells s) ∧ w.grownBy w' v.ownBlock := by
  obtain ⟨i, hi, hz, hsz, hby⟩ := Try.info5'
  have hsrc : Src Try.prog i.size 9 (.string (strOf s)) s.length (secCells s) w := by
    have := Src.ofString (P := Try.prog) w Try.underlying9 (strOf s)
    rw [strOf_size, byteCells_strOf] at this
    rw [hsz]
    exact this
  have hl := h.1
  rw [Nat.mul_one] at hl
  rcases h.2 with ⟨rfl, rfl⟩ | ⟨g, cap, cur, rfl, hbg, hg, hnc, hcm, hcs, htake⟩
  · have hx : xs = [] := List.eq_nil_of_length_eq_zero hl
    subst hx
    by_cases h0 : s.length = 0
    · have hs0 : s = [] := List.eq_nil_of_length_eq_zero h0
      subst hs0
      refine ⟨.slice none 0 0, w, ?_, World.ownsRow_nil _ _ _ _, ⟨rfl, rfl, rfl, Nat.le_refl _, fun _ _ _ => rfl⟩⟩
      have hc : (Builtin.firstCells i.size 0 (.string ByteArray.empty)).run Try.prog w = .ok #[] w := hsrc.cells
      have e : strOf [] = ByteArray.empty := rfl
      rw [e]
      simp [Builtin.append_, run_underlying Try.underlying28, run_underlying Try.underlying9, sizeOf, typeInfo, hi, hc, Builtin.lenOf]
    · have hold : (Builtin.firstCells i.size 0 (.slice none 0 0)).run Try.prog w.drew = .ok ([] : List Value).toArray w.drew := by simp [Builtin.firstCells]
      have hr := run_append_grow_src (P := Try.prog) w 28 9 ty 5 i (.int .u8 0) Try.underlying28 hi hz none 0 0 [] hold (.string (strOf s)) s.length (secCells s) hsrc (by omega) (by omega) (growslice_fits (by omega) (by rw [hby]; omega))
      have hgr := own_grown (w := w) (old := 0) (xs := []) hb rfl (length_secCells s) (by simp only [maxLen]; omega) _ rfl (Value.ownBlock (.slice none 0 0))
      exact ⟨_, _, hr, hgr.1, hgr.2⟩
  · rw [Nat.mul_one] at hcs htake
    by_cases hroom : n + s.length ≤ cap
    · have hst := run_storeCells_at Try.prog g n 5 (secCells s) 0 cur w hg (by rw [length_secCells, Nat.add_zero]; omega) (one_secCells s)
      simp only [Nat.add_zero] at hst
      have hp := own_place (news := secCells s) hbg hg hl htake hcs hcm (length_secCells s) hroom
      refine ⟨.slice (some ⟨g, 0, none⟩) (n + s.length) cap, _, ?_, hp.1, hp.2⟩
      have hcc := hsrc.cells
      have hln := hsrc.len
      rw [hsz] at hcc
      simp [Builtin.append_, run_underlying Try.underlying28, run_underlying Try.underlying9, sizeOf, typeInfo, hi, hsz, hln, hroom, hcc, Addr.add_mid, Nat.mul_one, hst]
    · have hold := firstCells_row (cap := cap) hg hl htake
      rw [← hsz] at hold
      have hr := run_append_grow_src (P := Try.prog) w 28 9 ty 5 i (.int .u8 0) Try.underlying28 hi hz (some ⟨g, 0, none⟩) n cap xs hold (.string (strOf s)) s.length (secCells s) hsrc (by omega) (by omega) (growslice_fits (by omega) (by rw [hby]; omega))
      have hgr := own_grown (w := w) (old := cap) hb hl (length_secCells s) (by simp only [maxLen]; omega) _ rfl (Value.ownBlock (.slice (some ⟨g, 0, none⟩) n cap))
      exact ⟨_, _, hr, hgr.1, hgr.2⟩
theorem zeroCells_rep (m : Nat) : Builtin.zeroCells (Value.cells (.int .u8 0)) m = (secCells (List.replicate m 0)).toArray := by
  apply Array.ext'
  simp [Builtin.zeroCells, secCells, Value.cells, bcell]
  refine List.ext_getElem (by simp) (fun i h1 h2 => ?_)
  simp [Nat.mod_one]
theorem run_append_zeros (w : World) (base : Nat) (ty : TypeId) (v : Value) (n : Nat) (xs : List Value) (h : w.ownsRow base 5 1 v n xs) (m : Nat) (hs : n + m ≤ 140737488355328) (hb : base ≤ w.heap.size) :
    ∃ v' w', (Builtin.append_ #[28, 3] ty #[v, .int .i64 (m : Int)]).run Try.prog w = .ok v' w' ∧ w'.ownsRow base 5 1 v' (n + m) (xs ++ secCells (List.replicate m 0)) ∧ w.grownBy w' v.ownBlock := by
  obtain ⟨i, hi, hz, hsz, hby⟩ := Try.info5'
  have hl := h.1
  rw [Nat.mul_one] at hl
  have hlr : (secCells (List.replicate m 0)).length = m := by rw [length_secCells]; simp
  rcases h.2 with ⟨rfl, rfl⟩ | ⟨g, cap, cur, rfl, hbg, hg, hnc, hcm, hcs, htake⟩
  · have hx : xs = [] := List.eq_nil_of_length_eq_zero hl
    subst hx
    by_cases h0 : m = 0
    · subst h0
      refine ⟨.slice none 0 0, w, ?_, World.ownsRow_nil _ _ _ _, ⟨rfl, rfl, rfl, Nat.le_refl _, fun _ _ _ => rfl⟩⟩
      have hw0 : IntKind.i64.wrap 0 = 0 := by decide
      simp [Builtin.append_, run_underlying Try.underlying28, run_underlying Try.underlying3, sizeOf, typeInfo, hi, asInt, asIntOf, hsz, hw0]
    · have hr := Lib.run_append_nil_zeros (P := Try.prog) w 28 3 ty 5 i (.int .u8 0) .i64 .i64 Try.underlying28 Try.underlying3 hi hz m (by omega) (by omega) (by omega) (by rw [hby]; omega)
      have hgr := own_grown (w := w) (old := 0) (n := 0) (m := m) (xs := []) hb rfl hlr (by simp only [maxLen]; omega) (Builtin.zeroCells (Value.cells (.int .u8 0)) m ++ Builtin.zeroCells (Value.cells (.int .u8 0)) (grownCap w m 0 5 - m)) (by rw [Nat.zero_add, List.nil_append, zeroCells_rep m]) (Value.ownBlock (.slice none 0 0))
      rw [Nat.zero_add] at hgr ⊢
      exact ⟨_, _, hr, hgr.1, hgr.2⟩
  · rw [Nat.mul_one] at hcs htake
    by_cases hroom : n + m ≤ cap
    · have hst := run_storeCells_at Try.prog g n 5 (secCells (List.replicate m 0)) 0 cur w hg (by rw [hlr, Nat.add_zero]; omega) (one_secCells _)
      simp only [Nat.add_zero] at hst
      have hp := own_place (news := secCells (List.replicate m 0)) hbg hg hl htake hcs hcm hlr hroom
      refine ⟨.slice (some ⟨g, 0, none⟩) (n + m) cap, _, ?_, hp.1, hp.2⟩
      have hw : IntKind.i64.wrap (m : Int) = m := by rw [IntKind.wrap_i64]; omega
      have hneg : ¬ ((m : Int) < 0) := by omega
      have h48 : ¬ (281474976710656 < (m : Int) * (i.bytes : Int)) := by rw [hby]; omega
      by_cases h0 : m = 0
      · subst h0
        have hw0 : IntKind.i64.wrap 0 = 0 := by decide
        simp [secCells] at hst
        simp [hw0, Builtin.append_, run_underlying Try.underlying28, run_underlying Try.underlying3, sizeOf, typeInfo, hi, asInt, asIntOf, hsz, hnc, hst, Addr.add_mid, secCells]
      · have e1 : Builtin.zeroCells #[Value.int .u8 0] m = (secCells (List.replicate m 0)).toArray := zeroCells_rep m
        have ez : (Value.int IntKind.u8 0).cells = #[Value.int IntKind.u8 0] := rfl
        simp [Builtin.append_, run_underlying Try.underlying28, run_underlying Try.underlying3, sizeOf, typeInfo, zeroValue, hi, hz, asInt, asIntOf, hsz, hw, hneg, h48, hroom, h0, ez, e1, hst, Addr.add_mid, Nat.mul_one]
    · have hold := firstCells_row (cap := cap) hg hl htake
      rw [← hsz] at hold
      have hr := Lib.run_append_grow_zeros (P := Try.prog) w 28 3 ty 5 i (.int .u8 0) .i64 .i64 Try.underlying28 Try.underlying3 hi hz (some ⟨g, 0, none⟩) n cap xs hold m (by omega) (by omega) (by omega) (by omega) (by rw [hby]; omega) (growslice_fits (by omega) (by rw [hby]; omega))
      have hgr := own_grown (w := w) (old := cap) hb hl hlr (by simp only [maxLen]; omega) (xs.toArray ++ Builtin.zeroCells (Value.cells (.int .u8 0)) m ++ Builtin.zeroCells (Value.cells (.int .u8 0)) (grownCap w (n + m) cap 5 - (n + m))) (by rw [zeroCells_rep m]; simp) (Value.ownBlock (.slice (some ⟨g, 0, none⟩) n cap))
      exact ⟨_, _, hr, hgr.1, hgr.2⟩
theorem wpList_append_strB {ops : Array Oper} {rest : List Oper} {o : Oper} {a : Act} {w : World} {Q : Exit → Act → World → Prop}
    (hg : o.guard = none) (s x : Operand) (hop : o.op = Op.call { callee := Callee.builtin Builtin.append, args := #[s, x], argTypes := #[28, 9] })
    (w0 : World) (u : Value) (A C : List UInt8) (hs : a.eval s = u) (hy : a.eval x = .string (strOf C)) (h : Bts w0 w u A) (hl : A.length + C.length ≤ 140737488355328)
    (hK : ∀ u' w', Bts w0 w' u' (A ++ C) → w.grownBy w' u.ownBlock → wpList Try.prog ops Q rest (a.put o.dst u') w') :
    wpList Try.prog ops Q (o :: rest) a w := by
  refine wpList_plain hg fun K hK' => ?_
  obtain ⟨v', w', hrun, r1, r2⟩ := run_append_str w w0.heap.size o.type u A.length (secCells A) h.own C hl h.below.size
  unfold Oper.wp
  simp [execOp, hop, resolve, invoke, builtin, hs, hy, hrun, Result.andThen]
  exact hK' _ _ (hK v' w' (h.grow r1 r2) r2)
theorem wpList_append_zerosB {ops : Array Oper} {rest : List Oper} {o : Oper} {a : Act} {w : World} {Q : Exit → Act → World → Prop}
    (hg : o.guard = none) (s x : Operand) (hop : o.op = Op.call { callee := Callee.builtin Builtin.append, args := #[s, x], argTypes := #[28, 3] })
    (w0 : World) (u : Value) (A : List UInt8) (m : Nat) (hs : a.eval s = u) (hy : a.eval x = .int .i64 (m : Int)) (h : Bts w0 w u A) (hl : A.length + m ≤ 140737488355328)
    (hK : ∀ u' w', Bts w0 w' u' (A ++ List.replicate m 0) → w.grownBy w' u.ownBlock → wpList Try.prog ops Q rest (a.put o.dst u') w') :
    wpList Try.prog ops Q (o :: rest) a w := by
  refine wpList_plain hg fun K hK' => ?_
  obtain ⟨v', w', hrun, r1, r2⟩ := run_append_zeros w w0.heap.size o.type u A.length (secCells A) h.own m hl h.below.size
  unfold Oper.wp
  simp [execOp, hop, resolve, invoke, builtin, hs, hy, hrun, Result.andThen]
  refine hK' _ _ (hK v' w' (h.grow (C := List.replicate m 0) ?_ r2) r2)
  simpa using r1
end Go.Proofs.Ytjcobejaldfibaa
