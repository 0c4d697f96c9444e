/- Release. -/
import Derived.Test.YtffjdjbjkjefoaaHldP
namespace Go.Proofs.Ytffjdjbjkjefoaa
open Go.RowKit Go.WideAt
set_option linter.unusedVariables false
set_option linter.unusedSimpArgs false

section
variable {P : Program} {w : World} {ops : Array Oper} {rest : List Oper} {o : Oper} {a : Act} {Q : Exit → Act → World → Prop}
theorem wpList_delV (hg : o.guard = none) (t k : TypeId) (m x : Operand) (hop : o.op = Op.call { callee := Callee.builtin Builtin.delete, args := #[m, x], argTypes := #[t, k] }) (px py : Value) (w' : World) (hx : a.eval m = px) (hy : a.eval x = py) (hr : (Builtin.delete_ #[t, k] o.type #[px, py]).run P w = .ok (.tuple #[]) w') (h : wpList P ops Q rest (a.put o.dst (.tuple #[])) w') : wpList P ops Q (o :: rest) a w := by
  refine wpList_plain hg fun K' hK' => ?_
  unfold Oper.wp
  simp [execOp, hop, hx, hy, resolve, invoke, builtin, hr, Result.andThen]
  exact hK' _ _ h
theorem wpList_lenV (hg : o.guard = none) (t : TypeId) (m : Operand) (hop : o.op = Op.call { callee := Callee.builtin Builtin.len, args := #[m], argTypes := #[t] }) (px v : Value) (hx : a.eval m = px) (hr : (Builtin.len_ #[t] o.type #[px]).run P w = .ok v w) (h : wpList P ops Q rest (a.put o.dst v) w) : wpList P ops Q (o :: rest) a w := by
  refine wpList_plain hg fun K' hK' => ?_
  unfold Oper.wp
  simp [execOp, hop, hx, resolve, invoke, builtin, hr, Result.andThen]
  exact hK' _ _ h
end
theorem TabIs.lookOf' {w : World} {base : Nat} {B : Tb} {m : Held} {N : Nat} (h : TabIs w base B m N) {x : Int} (hx : In64 x) : (Instr.lookup 54 (.map (some B.bf)) (.int .i64 x) false).run Try.prog w = .ok ((B.of x).getD (.slice none 0 0)) w := h.hof.look keyed3 Try.underlying54 (zero61 w) (key3 hx)
theorem TabIs.row' {w : World} {base : Nat} {B : Tb} {m : Held} {N : Nat} (h : TabIs w base B m N) (x : Int) : w.ownsRow base 9 1 ((B.of x).getD (.slice none 0 0)) (B.nm x).length ((B.nm x).map scell) := by
  cases hx : B.of x with
  | none =>
    rw [h.nrow x hx]
    exact ⟨rfl, .inl ⟨rfl, rfl⟩⟩
  | some v => exact h.rows x v hx
/-- id holds nothing any more. -/
def freeH (m : Held) (id : Int) : Held := fun x s => if x = id then none else m x s
/-- .. of these names. -/
def freeL (m : Held) (id : Int) (l : List (List UInt8)) : Held := fun x s => if x = id ∧ s ∈ l then none else m x s
theorem freeL_nil (m : Held) (id : Int) : freeL m id [] = m := by funext x s; simp [freeL]
theorem freeL_all {m : Held} {id : Int} {l : List (List UInt8)} (h : ∀ s, s ∈ l ↔ m id s ≠ none) : freeL m id l = freeH m id := by
  funext x s
  unfold freeL freeH
  by_cases e : x = id
  · subst e
    by_cases e2 : s ∈ l
    · simp [e2]
    · have : m x s = none := Classical.byContradiction fun hc => e2 ((h s).2 hc)
      simp [e2, this]
  · simp [e]
theorem freeL_snoc (m : Held) (id : Int) (l : List (List UInt8)) (s : List UInt8) (x : Int) (t : List UInt8) : freeL m id (l ++ [s]) x t = if x = id ∧ t = s then none else freeL m id l x t := by
  unfold freeL
  by_cases e : x = id
  · by_cases e2 : t = s
    · simp [e, e2]
    · simp [e, e2]
  · simp [e]
structure RelIs (w0 : World) (B : Tb) (N : Nat) (w : World) (on : List UInt8 → Option Nat) (m : Held) : Prop where
  hon : MapV w 9 B.bo N (ofS fun s => (on s).map fun b => .map (some b))
  sub : ∀ s b, on s = some b → B.on s = some b
  inner : ∀ s b, on s = some b → MapV w 3 b N (ofI fun x => (m x s).map (Value.int .i64))
  non : ∀ s, on s = none → ∀ x, m x s = none
  nemp : ∀ s b, on s = some b → ∃ x, m x s ≠ none
  os : w.os = w0.os
  tape : w.tape = w0.tape
  output : w.output = w0.output
  size : w0.heap.size ≤ w.heap.size
  block : ∀ k, k < w0.heap.size → k ≠ B.bo → (∀ s, B.on s ≠ some k) → w.heap[k]? = w0.heap[k]?
section
variable {w0 w w1 w2 : World} {base : Nat} {B : Tb} {m m' : Held} {N : Nat} {id : Int} {on : List UInt8 → Option Nat} {l : List (List UInt8)} {s : List UInt8}
theorem RelIs.start (h : TabIs w base B m N) : RelIs w B N w B.on m := ⟨h.hon, fun _ _ h => h, h.inner, h.non, h.nemp, rfl, rfl, rfl, Nat.le_refl _, fun _ _ _ _ => rfl⟩
theorem RelIs.cellblk (h : RelIs w0 B N w on m) (hT : TabIs w0 base B m' N) {k : Nat} {C : Array Value} {t : TypeId} (hk : w0.heap[k]? = some (.cells C t (0, 0))) : w.heap[k]? = some (.cells C t (0, 0)) :=
  (h.block k (lt_of_heap hk) (fun e => map_ne_cells hT.hon hk e.symm) (fun s e => map_ne_cells (hT.inner s k e) hk rfl)).trans hk
/-- One name is taken from id. -/
theorem RelIs.drop (h : RelIs w0 B N w on (freeL m id l)) (hT : TabIs w0 base B m' N) {b : Nat} (hb : on s = some b) (h1 : MapV w1 3 b N (delV (ofI fun x => (freeL m id l x s).map (Value.int .i64)) (.int .i64 id))) (hg : w.grownBy w1 (some b)) :
    MapV w1 9 B.bo N (ofS fun s => (on s).map fun b => .map (some b)) ∧ MapV w1 3 b N (ofI fun x => (freeL m id (l ++ [s]) x s).map (Value.int .i64)) ∧ ∀ t b', t ≠ s → on t = some b' → MapV w1 3 b' N (ofI fun x => (freeL m id (l ++ [s]) x t).map (Value.int .i64)) := by
  have hbl : ∀ k, k < w.heap.size → k ≠ b → w1.heap[k]? = w.heap[k]? := fun k hk hn => hg.block k hk (by intro e; injection e with e; exact hn e)
  refine ⟨h.hon.stay (hbl _ h.hon.lt (Ne.symm (hT.apart s b (h.sub s b hb)).1)), ?_, fun t b' ht hb' => ?_⟩
  · rw [ofI_del] at h1
    refine h1.ext fun kl hk => ?_
    cases kl with
    | int q x =>
      cases q <;> first | rfl | (show (if x = id then none else (freeL m id l x s).map (Value.int .i64)) = (freeL m id (l ++ [s]) x s).map (Value.int .i64); rw [freeL_snoc]; by_cases e : x = id <;> simp [e])
    | _ => rfl
  · have : (fun x => (freeL m id (l ++ [s]) x t).map (Value.int .i64)) = fun x => (freeL m id l x t).map (Value.int .i64) := by funext x; rw [freeL_snoc]; simp [ht]
    rw [this]
    exact (h.inner t b' hb').stay (hbl _ (h.inner t b' hb').lt (fun e => ht (hT.inj t s b' (h.sub t b' hb') (e ▸ h.sub s b hb))))
theorem RelIs.keep (h : RelIs w0 B N w on (freeL m id l)) (hT : TabIs w0 base B m' N) {b : Nat} (hb : on s = some b) (h1 : MapV w1 3 b N (delV (ofI fun x => (freeL m id l x s).map (Value.int .i64)) (.int .i64 id))) (hg : w.grownBy w1 (some b)) (hne : ∃ x, freeL m id (l ++ [s]) x s ≠ none) :
    RelIs w0 B N w1 on (freeL m id (l ++ [s])) := by
  obtain ⟨a1, a2, a3⟩ := h.drop hT hb h1 hg
  refine ⟨a1, h.sub, fun t b' hb' => ?_, fun t ht x => ?_, fun t b' hb' => ?_, hg.os.trans h.os, hg.tape.trans h.tape, hg.output.trans h.output, Nat.le_trans h.size hg.size, fun k hk k1 k2 => (hg.block k (Nat.lt_of_lt_of_le hk h.size) (by intro e; injection e with e; exact k2 s (by rw [e]; exact h.sub s b hb))).trans (h.block k hk k1 k2)⟩
  · by_cases e : t = s
    · subst e
      rw [hb] at hb'
      injection hb' with hb'
      subst hb'
      exact a2
    · exact a3 t b' e hb'
  · rw [freeL_snoc, h.non t ht x]
    simp
  · by_cases e : t = s
    · subst e; exact hne
    · obtain ⟨x, hx⟩ := h.nemp t b' hb'
      exact ⟨x, by rw [freeL_snoc]; simpa [e] using hx⟩
theorem RelIs.gone (h : RelIs w0 B N w on (freeL m id l)) (hT : TabIs w0 base B m' N) {b : Nat} (hb : on s = some b) (h1 : MapV w1 3 b N (delV (ofI fun x => (freeL m id l x s).map (Value.int .i64)) (.int .i64 id))) (hg : w.grownBy w1 (some b)) (he : ∀ x, freeL m id (l ++ [s]) x s = none)
    (h2 : MapV w2 9 B.bo N (delV (ofS fun s => (on s).map fun b => .map (some b)) (.string s))) (hg2 : w1.grownBy w2 (some B.bo)) : RelIs w0 B N w2 (fun t => if t = s then none else on t) (freeL m id (l ++ [s])) := by
  obtain ⟨a1, a2, a3⟩ := h.drop hT hb h1 hg
  refine ⟨?_, fun t b' hb' => ?_, fun t b' hb' => ?_, fun t ht x => ?_, fun t b' hb' => ?_, hg2.os.trans (hg.os.trans h.os), hg2.tape.trans (hg.tape.trans h.tape), hg2.output.trans (hg.output.trans h.output), Nat.le_trans h.size (Nat.le_trans hg.size hg2.size), fun k hk k1 k2 => (hg2.block k (Nat.lt_of_lt_of_le (Nat.lt_of_lt_of_le hk h.size) hg.size) (by intro e; injection e with e; exact k1 e)).trans ((hg.block k (Nat.lt_of_lt_of_le hk h.size) (by intro e; injection e with e; exact k2 s (by rw [e]; exact h.sub s b hb))).trans (h.block k hk k1 k2))⟩
  · rw [ofS_del] at h2
    refine h2.ext fun kl hk => ?_
    cases kl with
    | string t =>
      show (if t = s then none else (on t).map fun b => Value.map (some b)) = (if t = s then none else on t).map fun b => Value.map (some b)
      by_cases e : t = s <;> simp [e]
    | _ => rfl
  · by_cases e : t = s
    · rw [if_pos e] at hb'; cases hb'
    · rw [if_neg e] at hb'; exact h.sub t b' hb'
  · by_cases e : t = s
    · rw [if_pos e] at hb'; cases hb'
    · rw [if_neg e] at hb'
      have := a3 t b' e hb'
      exact this.stay (hg2.block _ this.lt (by intro e; injection e with e; exact (hT.apart t b' (h.sub t b' hb')).1 e))
  · by_cases e : t = s
    · subst e; exact he x
    · rw [if_neg e] at ht
      rw [freeL_snoc, h.non t ht x]
      simp
  · by_cases e : t = s
    · rw [if_pos e] at hb'; cases hb'
    · rw [if_neg e] at hb'
      obtain ⟨x, hx⟩ := h.nemp t b' hb'
      exact ⟨x, by rw [freeL_snoc]; simpa [e] using hx⟩
/-- All names are taken, and id itself. -/
theorem RelIs.fin (h : RelIs w0 B N w on (freeH m id)) (hT : TabIs w0 base B m N) (h1 : MapV w1 3 B.bf N (delV (ofI B.of) (.int .i64 id))) (hg : w.grownBy w1 (some B.bf)) :
    ∃ B', TabIs w1 base B' (freeH m id) N ∧ Moves B B' w0 w1 := by
  have hbl : ∀ k, k < w.heap.size → k ≠ B.bf → w1.heap[k]? = w.heap[k]? := fun k hk hn => hg.block k hk (by intro e; injection e with e; exact hn e)
  have hsz := h.size
  refine ⟨{ B with on := on, of := fun x => if x = id then none else B.of x, nm := fun x => if x = id then [] else B.nm x }, ?_, ?_⟩
  · exact
    { cell := (hbl _ (Nat.lt_of_lt_of_le (lt_of_heap hT.cell) hsz) (fun e => map_ne_cells hT.hof hT.cell e.symm)).trans (h.cellblk hT hT.cell)
      hon := h.hon.stay (hbl _ h.hon.lt hT.two)
      hof := by rw [ofI_del] at h1; exact h1
      inner := fun s b hb => (h.inner s b hb).stay (hbl _ (h.inner s b hb).lt (hT.apart s b (h.sub s b hb)).2)
      non := h.non
      nemp := h.nemp
      rows := fun x v hv => by
        by_cases e : x = id
        · simp [e] at hv
        · have hv0 : B.of x = some v := by simpa [e] using hv
          have : (if x = id then [] else B.nm x) = B.nm x := by simp [e]
          show w1.ownsRow base 9 1 v (if x = id then [] else B.nm x).length ((if x = id then [] else B.nm x).map scell)
          rw [this]
          refine owns_stay (hT.rows x v hv0) fun k hk => ?_
          obtain ⟨C, hC⟩ := row_block (hT.rows x v hv0) hk
          rw [hbl k (Nat.lt_of_lt_of_le (lt_of_heap hC) hsz) (fun e => map_ne_cells hT.hof hC e.symm), h.cellblk hT hC, hC]
      nrow := fun x hx => by
        show (if x = id then [] else B.nm x) = []
        by_cases e : x = id
        · simp [e]
        · have hx0 : B.of x = none := by simpa [e] using hx
          simp [e, hT.nrow x hx0]
      nodup := fun x => by
        show (if x = id then [] else B.nm x).Nodup
        by_cases e : x = id
        · simp [e]
        · simp only [e, if_false]; exact hT.nodup x
      names := fun x s => by
        show s ∈ (if x = id then [] else B.nm x) ↔ freeH m id x s ≠ none
        unfold freeH
        by_cases e : x = id
        · simp [e]
        · simp only [e, if_false]; exact hT.names x s
      good := fun x s h' hx => by
        unfold freeH at hx
        by_cases e : x = id
        · simp [e] at hx
        · simp only [e, if_false] at hx; exact hT.good x s h' hx
      inj := fun s s' b hs hs' => hT.inj s s' b (h.sub s b hs) (h.sub s' b hs')
      apart := fun s b hs => hT.apart s b (h.sub s b hs)
      two := hT.two
      rapart := fun x y v v' g hx hy => by
        by_cases e : x = id
        · simp [e] at hx
        · by_cases e' : y = id
          · simp [e'] at hy
          · exact hT.rapart x y v v' g (by simpa [e] using hx) (by simpa [e'] using hy)
      low := ⟨hT.low.1, hT.low.2.1, hT.low.2.2.1, fun s b hs => hT.low.2.2.2 s b (h.sub s b hs)⟩
      all := by
        obtain ⟨l, h1, h2⟩ := hT.all
        refine ⟨l, h1, fun x s hx => h2 x s ?_⟩
        unfold freeH at hx
        by_cases e : x = id
        · simp [e] at hx
        · simpa [e] using hx }
  · refine ⟨hg.os.trans h.os, hg.tape.trans h.tape, hg.output.trans h.output, Nat.le_trans hsz hg.size, rfl, fun k hk hn => (hbl k (Nat.lt_of_lt_of_le hk hsz) (fun e => hn (.inr (.inl e)))).trans (h.block k hk (fun e => hn (.inl e)) (fun s e => hn (.inr (.inr (.inl ⟨s, e⟩))))), fun k hk => .inl ?_⟩
    rcases hk with rfl | rfl | ⟨t, ht⟩ | ⟨x, v1, hx, hk⟩
    · exact .inl rfl
    · exact .inr (.inl rfl)
    · exact .inr (.inr (.inl ⟨t, h.sub t k ht⟩))
    · by_cases e : x = id
      · simp [e] at hx
      · exact .inr (.inr (.inr ⟨x, v1, by simpa [e] using hx, hk⟩))
end
end Go.Proofs.Ytffjdjbjkjefoaa
