/- Rows of records: what a page's slots are in memory that is the call's own. -/
import Derived.Test.YtdddeneppciiiaaBytes
namespace Go.Proofs.Ytdddeneppciiiaa
open Go.RowKit
set_option linter.unusedVariables false
set_option linter.unusedSimpArgs false

def recCells (R : List (Bool × Value)) : List Value := R.flatMap fun x => [.bool x.1, x.2]
theorem recCells_cons (x : Bool × Value) (R : List (Bool × Value)) : recCells (x :: R) = .bool x.1 :: x.2 :: recCells R := rfl
theorem recCells_append (A B : List (Bool × Value)) : recCells (A ++ B) = recCells A ++ recCells B := by simp [recCells]
theorem length_recCells : ∀ R, (recCells R).length = R.length * 2
  | [] => rfl
  | x :: R => by rw [recCells_cons, List.length_cons, List.length_cons, length_recCells R, List.length_cons]; omega
theorem recCells_get : ∀ (R : List (Bool × Value)) (i : Nat) (x : Bool × Value), R[i]? = some x → (recCells R)[i * 2]? = some (.bool x.1) ∧ (recCells R)[i * 2 + 1]? = some x.2
  | [], i, x, h => by simp at h
  | y :: R, 0, x, h => by simp at h; subst h; exact ⟨rfl, rfl⟩
  | y :: R, i + 1, x, h => by
    have := recCells_get R i x (by simpa using h)
    rw [recCells_cons, show (i + 1) * 2 = i * 2 + 1 + 1 by omega]
    simpa using this
theorem recCells_take : ∀ (R : List (Bool × Value)) (i : Nat), (recCells R).take (i * 2) = recCells (R.take i)
  | [], i => by simp [recCells]
  | y :: R, 0 => by simp [recCells]
  | y :: R, i + 1 => by
    rw [recCells_cons, show (i + 1) * 2 = i * 2 + 1 + 1 by omega, List.take_succ_cons, List.take_succ_cons, recCells_take R i, List.take_succ_cons, recCells_cons]
theorem recCells_drop : ∀ (R : List (Bool × Value)) (i : Nat), (recCells R).drop (i * 2) = recCells (R.drop i)
  | [], i => by simp [recCells]
  | y :: R, 0 => by simp
  | y :: R, i + 1 => by
    rw [recCells_cons, show (i + 1) * 2 = i * 2 + 1 + 1 by omega, List.drop_succ_cons, List.drop_succ_cons, recCells_drop R i, List.drop_succ_cons]
theorem recCells_set (R : List (Bool × Value)) (i : Nat) (b : Bool) (v : Value) (h : i < R.length) : (recCells R).take (i * 2) ++ [.bool b, v] ++ (recCells R).drop (i * 2 + 2) = recCells (R.set i (b, v)) := by
  rw [show i * 2 + 2 = (i + 1) * 2 by omega, recCells_take, recCells_drop, List.set_eq_take_append_cons_drop, if_pos h, recCells_append, recCells_cons, List.append_assoc]
  rfl
def RecIs (w : World) (x : Bool × Value) (s : Slt) : Prop := x.1 = s.isSome ∧ Sl w x.2 (s.getD [])
def Recs (w : World) (R : List (Bool × Value)) (T : List Slt) : Prop := R.length = T.length ∧ ∀ i x, R[i]? = some x → RecIs w x (T.getD i none)
theorem Recs.below {w w' : World} {R : List (Bool × Value)} {T : List Slt} (h : Recs w R T) (hb : ∀ v bs, Sl w v bs → Sl w' v bs) : Recs w' R T := ⟨h.1, fun i x hx => ⟨(h.2 i x hx).1, hb _ _ (h.2 i x hx).2⟩⟩
theorem Recs.set {w : World} {R : List (Bool × Value)} {T : List Slt} (h : Recs w R T) (i : Nat) (x : Bool × Value) (s : Slt) (hx : RecIs w x s) : Recs w (R.set i x) (T.set i s) := by
  refine ⟨by simp [h.1], fun j y hy => ?_⟩
  rw [List.getElem?_set] at hy
  split at hy
  · rename_i e
    subst e
    split at hy
    · rename_i hl
      simp only [Option.some.injEq] at hy
      subst hy
      have : i < T.length := by rw [← h.1]; exact hl
      simpa [List.getD, List.getElem?_set, this] using hx
    · cases hy
  · rename_i e
    have := h.2 j y hy
    simpa [List.getD, List.getElem?_set, e] using this
theorem Recs.snoc {w : World} {R : List (Bool × Value)} {T : List Slt} (h : Recs w R T) (x : Bool × Value) (s : Slt) (hx : RecIs w x s) : Recs w (R ++ [x]) (T ++ [s]) := by
  refine ⟨by simp [h.1], fun j y hy => ?_⟩
  rcases Nat.lt_or_ge j R.length with hj | hj
  · rw [List.getElem?_append_left hj] at hy
    have := h.2 j y hy
    simpa [List.getD, List.getElem?_append_left (show j < T.length by rw [← h.1]; exact hj)] using this
  · rw [List.getElem?_append_right hj] at hy
    have hj0 : j - R.length = 0 := by
      have := (List.getElem?_eq_some_iff.1 hy).1
      simp at this; omega
    rw [hj0] at hy
    simp at hy
    subst hy
    have hjT : j = T.length := by rw [← h.1]; omega
    subst hjT
    simpa [List.getD] using hx
theorem Recs.take {w : World} {R : List (Bool × Value)} {T : List Slt} (h : Recs w R T) (n : Nat) : Recs w (R.take n) (T.take n) := by
  refine ⟨by simp [h.1], fun j y hy => ?_⟩
  rw [List.getElem?_take] at hy
  split at hy
  · rename_i hj
    have := h.2 j y hy
    simpa [List.getD, List.getElem?_take, hj] using this
  · cases hy
theorem Recs.one {w : World} {R : List (Bool × Value)} {T : List Slt} (h : Recs w R T) : ∀ u ∈ recCells R, u.oneCell' = true := by
  intro u hu
  obtain ⟨x, hx, hu⟩ := List.mem_flatMap.1 hu
  obtain ⟨i, hi, rfl⟩ := List.getElem_of_mem hx
  have := (h.2 i _ (List.getElem?_eq_getElem hi)).2
  simp at hu
  rcases hu with rfl | rfl
  · rfl
  · obtain ⟨ao, c, e, _⟩ := this
    rw [e]; rfl
theorem recs_none (w : World) (n : Nat) : Recs w (List.replicate n (false, .slice none 0 0)) (List.replicate n none) := by
  refine ⟨by simp, fun i x hx => ?_⟩
  have hi := (List.getElem?_eq_some_iff.1 hx).1
  rw [List.getElem?_replicate] at hx
  split at hx
  · simp at hx
    subst hx
    rename_i h
    have : (List.replicate n (none : Slt)).getD i none = none := by rw [List.getD_eq_getElem?_getD, List.getElem?_replicate, if_pos h]; rfl
    rw [this]
    exact ⟨rfl, Sl.nil w⟩
  · cases hx

/-! ### Slots of the call's own -/
def SlotsOwn (w0 w : World) (v : Value) (S : List Slt) : Prop := Below w0.heap.size w0 w ∧ ∃ R, w.ownsRow w0.heap.size 61 2 v S.length (recCells R) ∧ Recs w0 R S
theorem SlotsOwn.at {w0 w : World} {v : Value} {S : List Slt} (h : SlotsOwn w0 w v S) : SlotsAt w v S := by
  obtain ⟨hb0, R, h1, h2⟩ := h
  replace h2 := h2.below (fun v bs hv => hv.belowW hb0)
  obtain ⟨ao, c, rfl, k1, k2, k3⟩ := Row.of_owns h1
  refine ⟨ao, c, rfl, k1, k2, fun i hi => ?_⟩
  have hR : i < R.length := by rw [h2.1]; exact hi
  obtain ⟨g, o, rfl, hr⟩ := k3 (fun e => by
    have := length_recCells R
    rw [e] at this
    simp at this; omega)
  obtain ⟨g1, g2⟩ := recCells_get R i _ (List.getElem?_eq_getElem hR)
  have hx := h2.2 i _ (List.getElem?_eq_getElem hR)
  obtain ⟨ad, ac, e, e1, e2⟩ := hx.2.len
  refine ⟨g, o, _, ad, ac, rfl, ?_, ?_, rfl, ?_⟩
  · rw [← hx.1]; exact hr _ _ g1
  · rw [Nat.add_assoc]; rw [e] at g2; exact hr _ _ g2
  · have := hx.2; rw [e] at this; exact this
theorem SlotsOwn.below {w0 w w' : World} {v : Value} {S : List Slt} (h : SlotsOwn w0 w v S) (hb : Below w.heap.size w w') : SlotsOwn w0 w' v S := by
  obtain ⟨hb0, R, h1, h2⟩ := h
  exact ⟨hb0.trans (hb.mono hb0.size), R, owns_below h1 hb (Nat.le_refl _), h2⟩
theorem slotsOwn_nil {w0 w : World} (hb : Below w0.heap.size w0 w) : SlotsOwn w0 w (.slice none 0 0) [] := ⟨hb, [], World.ownsRow_nil _ _ _ _, rfl, fun i x h => by simp at h⟩
theorem Try.size61 : (Try.prog.info? 61).map (·.size) = some 2 := by kernel_rfl
/-- A record stored. -/
theorem SlotsOwn.set {w0 w : World} {v : Value} {S : List Slt} (h : SlotsOwn w0 w v S) (i : Nat) (hi : i < S.length) (b : Bool) (dv : Value) (s : Slt) (hd : RecIs w0 (b, dv) s) :
    ∃ G cap w', v = .slice (some ⟨G, 0, none⟩) S.length cap ∧ w0.heap.size ≤ G ∧ (∃ C, w.heap[G]? = some (.cells C 61 (0, 0))) ∧ (Instr.storeAt 61 (.pointer (some ⟨G, i * 2, none⟩)) (.agg #[.bool b, dv])).run Try.prog w = .ok () w' ∧ SlotsOwn w0 w' v (S.set i s) ∧ Off [G] w w' ∧ w'.heap.size = w.heap.size := by
  obtain ⟨hb0, R, h1, h2⟩ := h
  have hR : R.length = S.length := h2.1
  obtain ⟨hl, h3⟩ := h1
  rcases h3 with ⟨rfl, h4⟩ | ⟨G, cap, cur, rfl, hG, hg, k1, k2, k3, k4⟩
  · omega
  have hone : ∀ u ∈ [Value.bool b, dv], u.oneCell' = true := by
    intro u hu
    simp at hu
    rcases hu with rfl | rfl
    · rfl
    · obtain ⟨ao, c, e, _⟩ := hd.2
      simp only at e
      rw [e]; rfl
  have hst := run_storeAt_in (P := Try.prog) w G (i * 2) 61 61 cur [.bool b, dv] hg (by simp; omega) Try.size61 hone
  refine ⟨G, cap, _, rfl, hG, ⟨_, hg⟩, hst, ⟨below_setRow hb0 hG _, R.set i (b, dv), ⟨by rw [length_recCells, List.length_set, List.length_set, hR], .inr ⟨G, cap, _, by rw [List.length_set], hG, setRow_heap _ _ _ _ _ _ hg, by rw [List.length_set]; exact k1, k2, ?_, ?_⟩⟩, h2.set i (b, dv) s hd⟩, ⟨rfl, rfl, rfl, by simp [World.setRow], fun k hk hn => setRow_other w G k _ (by intro e; subst e; exact hn (by simp))⟩, by simp [World.setRow]⟩
  · have hcs : cur.toList.length = cap * 2 := by simpa using k3
    simp only [List.size_toArray, List.length_append, List.length_take, List.length_drop, List.length_cons, List.length_nil, hcs]
    omega
  · have hcs : cur.toList.length = cap * 2 := by simpa using k3
    rw [List.length_set]
    have hsplit : cur.toList = recCells R ++ cur.toList.drop (S.length * 2) := by rw [← k4, List.take_append_drop]
    have hlen : (recCells R).length = S.length * 2 := by rw [length_recCells, hR]
    simp only [List.length_cons, List.length_nil]
    rw [← recCells_set R i b dv (by omega)]
    generalize cur.toList.drop (S.length * 2) = tl at hsplit
    have e1 : (recCells R ++ tl).take (i * 2) = (recCells R).take (i * 2) := List.take_append_of_le_length (by omega)
    have e2 : (recCells R ++ tl).drop (i * 2 + 2) = (recCells R).drop (i * 2 + 2) ++ tl := List.drop_append_of_le_length (by omega)
    rw [hsplit, e1, e2, ← List.append_assoc]
    refine List.take_left' ?_
    simp only [List.length_append, List.length_take, List.length_drop, List.length_cons, List.length_nil, hlen]
    omega
/-- The slots at the end cut off. -/
theorem SlotsOwn.cut {w0 w : World} {ao : Option Addr} {n c : Nat} {S : List Slt} (h : SlotsOwn w0 w (.slice ao n c) S) (m : Nat) (hm : m ≤ S.length) : SlotsOwn w0 w (.slice ao m c) (S.take m) := by
  obtain ⟨hb0, R, h1, h2⟩ := h
  have hR : R.length = S.length := h2.1
  have hl : (S.take m).length = m := by rw [List.length_take]; omega
  obtain ⟨_, h3⟩ := h1
  refine ⟨hb0, R.take m, ⟨by rw [length_recCells, List.length_take, hl, hR]; congr 1; omega, ?_⟩, h2.take m⟩
  rcases h3 with ⟨e, h4⟩ | ⟨G, cap, cur, e, hG, hg, k1, k2, k3, k4⟩
  · injection e with e1 e2 e3
    subst e1 e3
    have : m = 0 := by omega
    subst this
    exact .inl ⟨rfl, hl⟩
  · injection e with e1 e2 e3
    subst e1 e3
    refine .inr ⟨G, c, cur, by rw [hl], hG, hg, by omega, k2, k3, ?_⟩
    rw [hl, ← recCells_take, ← k4, List.take_take, Nat.min_eq_left (by omega)]
/-- A row in a block of its own. -/
def RowIn (w : World) (G : Nat) (R : List (Bool × Value)) : Prop := w.heap[G]? = some (.cells (recCells R).toArray 61 (0, 0))
theorem RowIn.own {w0 w : World} {G : Nat} {R : List (Bool × Value)} {S : List Slt} (h : RowIn w G R) (hbw : Below w0.heap.size w0 w) (hb : w0.heap.size ≤ G) (hr : Recs w0 R S) (hs : S.length ≤ 1000000) : SlotsOwn w0 w (.slice (some ⟨G, 0, none⟩) S.length S.length) S := by
  refine ⟨hbw, R, ⟨by rw [length_recCells, hr.1], .inr ⟨G, S.length, _, rfl, hb, h, Nat.le_refl _, by simp only [maxLen]; omega, by simp [length_recCells, hr.1], ?_⟩⟩, hr⟩
  rw [List.take_of_length_le (by simp [length_recCells, hr.1])]
theorem Try.info61 : (Try.prog.info? 61).map (fun i => (i.zero, i.size, i.bytes)) = some (some (.agg #[.bool false, .slice none 0 0]), 2, 32) := by kernel_rfl
theorem made_pairs (a b : Value) : ∀ n, madeCells #[a, b] (n * 2) = ((List.replicate n [a, b]).flatten).toArray := by
  intro n
  apply Array.ext
  · simp [madeCells]
  · intro i h1 h2
    have key : ∀ n i, i < n * 2 → ((List.replicate n [a, b]).flatten)[i]? = some (if i % 2 = 0 then a else b) := by
      intro n
      induction n with
      | zero => intro i h; omega
      | succ n ih =>
        intro i h
        rw [List.replicate_succ, List.flatten_cons]
        match i, h with
        | 0, _ => rfl
        | 1, _ => rfl
        | i + 2, h =>
          have := ih i (by omega)
          simp only [List.cons_append, List.nil_append, List.getElem?_cons_succ]
          rw [this, Nat.add_mod_right]
    have hi : i < n * 2 := by simpa [madeCells] using h1
    have := key n i hi
    rw [List.getElem?_eq_getElem (by simpa using h2)] at this
    simp only [Option.some.injEq] at this
    simp only [madeCells, Array.getElem_map, Array.getElem_range, List.getElem_toArray]
    rw [this]
    have : i % 2 < 2 := Nat.mod_lt _ (by omega)
    show #[a, b][i % 2]! = _
    match h : i % 2, this with
    | 0, _ => rfl
    | 1, _ => rfl
theorem makeRecs (n : Nat) (hn : n ≤ 1000000) (w : World) : (Instr.makeSlice 54 (.int .i64 (n : Int)) (.int .i64 (n : Int))).run Try.prog w = .ok (.slice (some ⟨w.heap.size, 0, none⟩) n n) (w.alloc (.cells (recCells (List.replicate n (false, .slice none 0 0))).toArray 61)) := by
  obtain ⟨i, hi, hz⟩ := Option.map_eq_some_iff.1 Try.info61
  simp only [Prod.mk.injEq] at hz
  obtain ⟨hz, hs, hb⟩ := hz
  have h := run_make (P := Try.prog) w 54 61 i _ Try.underlying54 hi hz .i64 .i64 n n (by omega) (by omega) (by rw [hb]; omega) (by omega)
  rw [h, hs]
  have e : madeCells (Value.agg #[.bool false, .slice none 0 0]).cells ((n : Int).toNat * 2) = (recCells (List.replicate n (false, .slice none 0 0))).toArray := by
    rw [Int.toNat_natCast]
    show madeCells #[.bool false, .slice none 0 0] (n * 2) = _
    rw [made_pairs]
    congr 1
    simp [recCells, List.flatMap_replicate]
  rw [e, Int.toNat_natCast]
theorem op_build (ρ : Operand → Value) (o : Oper) (t : TypeId) (parts : Array (Nat × Operand)) (ho : o.op = .build t parts) (cells : Array Value) {P : Program} {w : World} (hr : (Instr.build t (parts.map fun (i, x) => (i, ρ x))).run P w = .ok (.agg cells) w) : (execOp ρ o).run P w = .ok (.value (.agg cells)) w := by
  unfold execOp
  simp only [ho, Sem.run_bind, hr, Result.andThen_ok, Sem.run_pure]
theorem build61 (b : Bool) (v : Value) (w : World) (ao : Option Addr) (n c : Nat) (hv : v = .slice ao n c) : (Instr.build 61 #[(0, .bool b), (1, v)]).run Try.prog w = .ok (.agg #[.bool b, v]) w := by
  subst hv
  kernel_rfl
end Go.Proofs.Ytdddeneppciiiaa
