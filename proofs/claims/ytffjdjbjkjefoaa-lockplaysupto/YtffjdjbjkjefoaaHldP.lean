/- A table in which somebody holds one more: what has to be shown of memory. -/
import Derived.Test.YtffjdjbjkjefoaaAga
import Derived.Maps.AppendAt
namespace Go.Proofs.Ytffjdjbjkjefoaa
open Go.RowKit Go.WideAt
set_option linter.unusedVariables false
set_option linter.unusedSimpArgs false

/-- What a call leaves alone. -/
structure Moves (B B' : Tb) (w w' : World) : Prop where
  os : w'.os = w.os
  tape : w'.tape = w.tape
  output : w'.output = w.output
  size : w.heap.size ≤ w'.heap.size
  t : B'.t = B.t
  block : ∀ k, k < w.heap.size → ¬ B.own k → w'.heap[k]? = w.heap[k]?
  own : ∀ k, B'.own k → B.own k ∨ w.heap.size ≤ k
theorem Moves.refl (B : Tb) (w : World) : Moves B B w w := ⟨rfl, rfl, rfl, Nat.le_refl _, rfl, fun _ _ _ => rfl, fun _ h => .inl h⟩
theorem Moves.trans {B B' B'' : Tb} {w w' w'' : World} (h : Moves B B' w w') (k : Moves B' B'' w' w'') : Moves B B'' w w'' :=
  ⟨k.os.trans h.os, k.tape.trans h.tape, k.output.trans h.output, Nat.le_trans h.size k.size, k.t.trans h.t, fun i hi hn => (k.block i (Nat.lt_of_lt_of_le hi h.size) (fun ho => by
    rcases h.own i ho with h1 | h1
    · exact hn h1
    · omega)).trans (h.block i hi hn), fun i hi => by
    rcases k.own i hi with h1 | h1
    · exact h.own i h1
    · exact .inr (Nat.le_trans h.size h1)⟩
theorem Moves.below {B : Tb} {w w' : World} (h : Below w.heap.size w w') : Moves B B w w' := ⟨h.os, h.tape, h.output, h.size, rfl, fun k hk _ => h.block k hk, fun _ h => .inl h⟩
def updH (m : Held) (id : Int) (s : List UInt8) (md : Int) : Held := fun x t => if x = id ∧ t = s then some md else m x t
def Tb.with1 (B : Tb) (id : Int) (s : List UInt8) (b : Nat) (v : Value) : Tb := { B with on := fun t => if t = s then some b else B.on t, of := fun x => if x = id then some v else B.of x, nm := fun x => if x = id then B.nm id ++ [s] else B.nm x }
section
variable {w w' : World} {base : Nat} {B : Tb} {m : Held} {N : Nat} {id : Int} {s : List UInt8} {md : Int}
theorem updH_inner (m : Held) (id : Int) (s : List UInt8) (md : Int) : updV (ofI fun x => (m x s).map (Value.int .i64)) (.int .i64 id) (.int .i64 md) = ofI fun x => (updH m id s md x s).map (Value.int .i64) := by
  rw [ofI_upd]
  congr 1
  funext x
  unfold updH
  by_cases e : x = id
  · simp [e]
  · simp [e]
theorem updH_other {m : Held} {id : Int} {s t : List UInt8} {md : Int} (h : t ≠ s) (x : Int) : updH m id s md x t = m x t := by unfold updH; simp [h]
theorem updH_some {m : Held} {id : Int} {s : List UInt8} {md : Int} {x : Int} {t : List UInt8} : updH m id s md x t ≠ none ↔ (x = id ∧ t = s) ∨ m x t ≠ none := by
  unfold updH
  by_cases e : x = id ∧ t = s
  · simp [e]
  · simp [e]
theorem map_ne_cells {k : TypeId} {b b' n : Nat} {f : Lit → Option Value} {C : Array Value} {t : TypeId} {fr : Nat × Nat} (h : MapV w k b n f) (h' : w.heap[b']? = some (.cells C t fr)) : b ≠ b' := by
  rintro rfl
  obtain ⟨es, c, h1⟩ := h.isMap
  rw [h'] at h1
  cases h1
theorem row_block {e : TypeId} {v : Value} {n k : Nat} {xs : List Value} (h : w.ownsRow base e 1 v n xs) (hk : v.ownBlock = some k) : ∃ C, w.heap[k]? = some (.cells C e (0, 0)) := by
  rcases own_of h with ⟨rfl, _, _⟩ | ⟨g, cap, cur, rfl, _, h2, _⟩
  · cases hk
  · have : g = k := by simpa [Value.ownBlock] using hk
    subst this
    exact ⟨_, h2⟩
theorem TabIs.names_le (h : TabIs w base B m N) (x : Int) : (B.nm x).length ≤ N := by
  obtain ⟨l, h1, h2⟩ := h.all
  have h3 : ((B.nm x).map fun s => (x, s)).length ≤ l.length := List.Nodup.length_le_of_subset (List.Pairwise.map _ (by intro a b hab; simpa using hab) (h.nodup x)) (fun p hp => by
    obtain ⟨s, hs, rfl⟩ := List.mem_map.1 hp
    exact h2 x s ((h.names x s).1 hs))
  rw [List.length_map] at h3
  omega
theorem updH_all (h : ∃ l : List (Int × List UInt8), l.length ≤ N ∧ ∀ x s, m x s ≠ none → (x, s) ∈ l) : ∃ l : List (Int × List UInt8), l.length ≤ N + 1 ∧ ∀ x t, updH m id s md x t ≠ none → (x, t) ∈ l := by
  obtain ⟨l, h1, h2⟩ := h
  refine ⟨(id, s) :: l, by simp; omega, fun x t hx => ?_⟩
  rcases updH_some.1 hx with ⟨rfl, rfl⟩ | hx
  · simp
  · exact List.mem_cons_of_mem _ (h2 x t hx)
theorem updH_good (h : ∀ x s h, m x s = some h → isMode h = true ∧ In64 x ∧ NameOk s) (hid : In64 id) (hs : NameOk s) (hmd : isMode md = true) : ∀ x t h, updH m id s md x t = some h → isMode h = true ∧ In64 x ∧ NameOk t := by
  intro x t h' hx
  unfold updH at hx
  by_cases e : x = id ∧ t = s
  · rw [if_pos e] at hx
    injection hx with hx
    subst hx
    obtain ⟨rfl, rfl⟩ := e
    exact ⟨hmd, hid, hs⟩
  · rw [if_neg e] at hx
    exact h x t h' hx
/-- Who holds something on the name already, holds another mode. -/
theorem TabIs.set (h : TabIs w base B m N) (hid : In64 id) (hs : NameOk s) (hmd : isMode md = true) (hm : m id s ≠ none) {b : Nat} (hb : B.on s = some b) (hin : MapV w' 3 b (N + 1) (ofI fun x => (updH m id s md x s).map (Value.int .i64))) (hg : w.grownBy w' (some b)) : TabIs w' base B (updH m id s md) (N + 1) := by
  have hbl : ∀ k, k < w.heap.size → k ≠ b → w'.heap[k]? = w.heap[k]? := fun k hk hn => hg.block k hk (by intro e; injection e with e; exact hn e)
  have hne : ∀ x t, updH m id s md x t ≠ none ↔ m x t ≠ none := fun x t => by
    rw [updH_some]
    constructor
    · rintro (⟨rfl, rfl⟩ | h)
      · exact hm
      · exact h
    · exact .inr
  have hH := h.mono (Nat.le_succ N)
  exact
  { cell := (hbl _ (lt_of_heap h.cell) (fun e => (map_ne_cells (h.inner s b hb) h.cell) e.symm)).trans h.cell
    hon := hH.hon.stay (hbl _ h.hon.lt (Ne.symm (h.apart s b hb).1))
    hof := hH.hof.stay (hbl _ h.hof.lt (Ne.symm (h.apart s b hb).2))
    inner := fun t b' hb' => by
      by_cases e : t = s
      · subst e
        rw [hb] at hb'
        injection hb' with hb'
        subst hb'
        exact hin
      · have : (fun x => (updH m id s md x t).map (Value.int .i64)) = fun x => (m x t).map (Value.int .i64) := by funext x; rw [updH_other e]
        rw [this]
        exact (hH.inner t b' hb').stay (hbl _ (h.inner t b' hb').lt (fun e' => e (h.inj t s b' hb' (e' ▸ hb))))
    non := fun t ht x => by
      have := h.non t ht x
      exact Classical.byContradiction fun hc => (hne x t).1 hc this
    nemp := fun t b' hb' => by
      obtain ⟨x, hx⟩ := h.nemp t b' hb'
      exact ⟨x, (hne x t).2 hx⟩
    rows := fun x v hv => owns_stay (h.rows x v hv) fun k hk => hbl k ((h.rows x v hv).lt k hk).2 (fun e => by
      obtain ⟨C, hC⟩ := row_block (h.rows x v hv) hk
      exact map_ne_cells (h.inner s b hb) hC e.symm)
    nrow := h.nrow
    nodup := h.nodup
    names := fun x t => (h.names x t).trans (hne x t).symm
    good := updH_good h.good hid hs hmd
    inj := h.inj
    apart := h.apart
    two := h.two
    rapart := h.rapart
    low := h.low
    all := updH_all h.all }
/-- Who holds nothing on the name, comes to hold it. -/
theorem TabIs.held (h : TabIs w base B m N) (hid : In64 id) (hs : NameOk s) (hmd : isMode md = true) (hm : m id s = none) {b : Nat} {v : Value} (hb : B.on s = some b ∨ B.on s = none ∧ w.heap.size ≤ b ∧ base ≤ b)
    (hin : MapV w' 3 b (N + 1) (ofI fun x => (updH m id s md x s).map (Value.int .i64)))
    (hof : MapV w' 3 B.bf (N + 1) (ofI (B.with1 id s b v).of)) (hon : MapV w' 9 B.bo (N + 1) (ofS fun t => ((B.with1 id s b v).on t).map fun b => .map (some b)))
    (hrow : w'.ownsRow base 9 1 v ((B.nm id).length + 1) ((B.nm id).map scell ++ [scell s])) (hv : ∀ g, v.ownBlock = some g → (∃ v0, B.of id = some v0 ∧ v0.ownBlock = some g) ∨ w.heap.size ≤ g)
    (hbl : ∀ k, k < w.heap.size → k ≠ B.bf → k ≠ B.bo → k ≠ b → (∀ v0, B.of id = some v0 → v0.ownBlock ≠ some k) → w'.heap[k]? = w.heap[k]?) : TabIs w' base (B.with1 id s b v) (updH m id s md) (N + 1) := by
  have hH := h.mono (Nat.le_succ N)
  have hbnew : ∀ t b', B.on t = some b' → t ≠ s → b' ≠ b := fun t b' hb' hn e => by
    subst e
    rcases hb with hb | ⟨_, hb, _⟩
    · exact hn (h.inj t s b' hb' hb)
    · have := (h.inner t b' hb').lt
      omega
  have hbb : b ≠ B.bo ∧ b ≠ B.bf := by
    rcases hb with hb | ⟨_, hb, _⟩
    · exact h.apart s b hb
    · have := h.hon.lt
      have := h.hof.lt
      omega
  have hcb : ∀ k C t fr, w.heap[k]? = some (.cells C t fr) → k ≠ b := fun k C t fr hk e => by
    subst e
    rcases hb with hb | ⟨_, hb, _⟩
    · exact map_ne_cells (h.inner s k hb) hk rfl
    · have := lt_of_heap hk
      omega
  have hrb : ∀ v0 k, B.of id = some v0 → v0.ownBlock = some k → ∃ C, w.heap[k]? = some (.cells C 9 (0, 0)) := fun v0 k h0 hk => row_block (h.rows id v0 h0) hk
  have hmapr : ∀ kk k n f, MapV w kk k n f → ∀ v0, B.of id = some v0 → v0.ownBlock ≠ some k := fun kk k n f hM v0 h0 hk => by
    obtain ⟨C, hC⟩ := hrb v0 k h0 hk
    exact map_ne_cells hM hC rfl
  exact
  { cell := (hbl B.t (lt_of_heap h.cell) (fun e => map_ne_cells h.hof h.cell e.symm) (fun e => map_ne_cells h.hon h.cell e.symm) (hcb _ _ _ _ h.cell) (fun v0 h0 hk => by
      obtain ⟨C, hC⟩ := hrb v0 _ h0 hk
      rw [h.cell] at hC
      cases hC)).trans h.cell
    hon := hon
    hof := hof
    inner := fun t b' hb' => by
      by_cases e : t = s
      · subst e
        have : b = b' := by simpa [Tb.with1] using hb'
        subst this
        exact hin
      · have hb0 : B.on t = some b' := by simpa [Tb.with1, e] using hb'
        have : (fun x => (updH m id s md x t).map (Value.int .i64)) = fun x => (m x t).map (Value.int .i64) := by funext x; rw [updH_other e]
        rw [this]
        exact (hH.inner t b' hb0).stay (hbl _ (h.inner t b' hb0).lt (h.apart t b' hb0).2 (h.apart t b' hb0).1 (hbnew t b' hb0 e) (hmapr _ _ _ _ (h.inner t b' hb0)))
    non := fun t ht x => by
      have e : t ≠ s := fun e => by simp [Tb.with1, e] at ht
      have ht0 : B.on t = none := by simpa [Tb.with1, e] using ht
      rw [updH_other e]
      exact h.non t ht0 x
    nemp := fun t b' hb' => by
      by_cases e : t = s
      · exact ⟨id, updH_some.2 (.inl ⟨rfl, e⟩)⟩
      · have hb0 : B.on t = some b' := by simpa [Tb.with1, e] using hb'
        obtain ⟨x, hx⟩ := h.nemp t b' hb0
        exact ⟨x, updH_some.2 (.inr hx)⟩
    rows := fun x v1 hv1 => by
      by_cases e : x = id
      · subst e
        have : v = v1 := by simpa [Tb.with1] using hv1
        subst this
        have : (B.with1 x s b v).nm x = B.nm x ++ [s] := by simp [Tb.with1]
        rw [this, List.length_append, List.map_append]
        exact hrow
      · have h0 : B.of x = some v1 := by simpa [Tb.with1, e] using hv1
        have : (B.with1 id s b v).nm x = B.nm x := by simp [Tb.with1, e]
        rw [this]
        refine owns_stay (h.rows x v1 h0) fun k hk => ?_
        obtain ⟨C, hC⟩ := row_block (h.rows x v1 h0) hk
        exact hbl k (lt_of_heap hC) (fun e => map_ne_cells h.hof hC e.symm) (fun e => map_ne_cells h.hon hC e.symm) (hcb _ _ _ _ hC) (fun v0 hv0 hk0 => e (h.rapart x id v1 v0 k h0 hv0 hk hk0))
    nrow := fun x hx => by
      have e : x ≠ id := fun e => by simp [Tb.with1, e] at hx
      have : (B.with1 id s b v).nm x = B.nm x := by simp [Tb.with1, e]
      rw [this]
      exact h.nrow x (by simpa [Tb.with1, e] using hx)
    nodup := fun x => by
      by_cases e : x = id
      · subst e
        have : (B.with1 x s b v).nm x = B.nm x ++ [s] := by simp [Tb.with1]
        rw [this, List.nodup_append]
        refine ⟨h.nodup x, by simp, fun a ha c hc => ?_⟩
        rw [List.mem_singleton] at hc
        subst hc
        rintro rfl
        exact (h.names x a).1 ha hm
      · have : (B.with1 id s b v).nm x = B.nm x := by simp [Tb.with1, e]
        rw [this]
        exact h.nodup x
    names := fun x t => by
      rw [updH_some]
      by_cases e : x = id
      · subst e
        have : (B.with1 x s b v).nm x = B.nm x ++ [s] := by simp [Tb.with1]
        rw [this, List.mem_append, List.mem_singleton, h.names x t]
        constructor
        · rintro (h | h)
          · exact .inr h
          · exact .inl ⟨rfl, h⟩
        · rintro (h | h)
          · exact .inr h.2
          · exact .inl h
      · have : (B.with1 id s b v).nm x = B.nm x := by simp [Tb.with1, e]
        rw [this, h.names x t]
        simp [e]
    good := updH_good h.good hid hs hmd
    inj := fun t t' b' ht ht' => by
      by_cases e : t = s
      · subst e
        have eb : b = b' := by simpa [Tb.with1] using ht
        subst eb
        by_cases e' : t' = t
        · exact e'.symm
        · have h0 : B.on t' = some b := by simpa [Tb.with1, e'] using ht'
          exact absurd rfl (hbnew t' b h0 e')
      · have h0 : B.on t = some b' := by simpa [Tb.with1, e] using ht
        by_cases e' : t' = s
        · subst e'
          have eb : b = b' := by simpa [Tb.with1] using ht'
          exact absurd eb.symm (hbnew t b' h0 e)
        · have h1 : B.on t' = some b' := by simpa [Tb.with1, e'] using ht'
          exact h.inj t t' b' h0 h1
    apart := fun t b' ht => by
      by_cases e : t = s
      · subst e
        have eb : b = b' := by simpa [Tb.with1] using ht
        subst eb
        exact hbb
      · have h0 : B.on t = some b' := by simpa [Tb.with1, e] using ht
        exact h.apart t b' h0
    two := h.two
    rapart := fun x y v1 v2 g h1 h2 g1 g2 => by
      have key : ∀ y v2, y ≠ id → B.of y = some v2 → v2.ownBlock = some g → v.ownBlock = some g → False := fun y v2 hy h2 g2 g1 => by
        rcases hv g g1 with ⟨v0, a1, a2⟩ | a1
        · exact hy (h.rapart y id v2 v0 g h2 a1 g2 a2)
        · have := ((h.rows y v2 h2).lt g g2).2
          omega
      by_cases e : x = id
      · subst e
        have ev : v = v1 := by simpa [Tb.with1] using h1
        subst ev
        by_cases e' : y = x
        · exact e'.symm
        · exact absurd (key y v2 e' (by simpa [Tb.with1, e'] using h2) g2 g1) (by simp)
      · have h1' : B.of x = some v1 := by simpa [Tb.with1, e] using h1
        by_cases e' : y = id
        · subst e'
          have ev : v = v2 := by simpa [Tb.with1] using h2
          subst ev
          exact absurd (key x v1 e h1' g1 g2) (by simp)
        · exact h.rapart x y v1 v2 g h1' (by simpa [Tb.with1, e'] using h2) g1 g2
    low := by
      obtain ⟨a1, a2, a3, a4⟩ := h.low
      refine ⟨a1, a2, a3, fun t b' ht => ?_⟩
      by_cases e : t = s
      · subst e
        have eb : b = b' := by simpa [Tb.with1] using ht
        subst eb
        rcases hb with hb | ⟨_, _, hb⟩
        · exact a4 t b hb
        · exact hb
      · exact a4 t b' (by simpa [Tb.with1, e] using ht)
    all := updH_all h.all }
/-- .. and what it leaves alone. -/
theorem moves_held (h : TabIs w base B m N) (ho : w'.os = w.os) (ht : w'.tape = w.tape) (hu : w'.output = w.output) (hz : w.heap.size ≤ w'.heap.size) {b : Nat} {v : Value} (hb : B.on s = some b ∨ B.on s = none ∧ w.heap.size ≤ b ∧ base ≤ b)
    (hv : ∀ g, v.ownBlock = some g → (∃ v0, B.of id = some v0 ∧ v0.ownBlock = some g) ∨ w.heap.size ≤ g)
    (hbl : ∀ k, k < w.heap.size → k ≠ B.bf → k ≠ B.bo → k ≠ b → (∀ v0, B.of id = some v0 → v0.ownBlock ≠ some k) → w'.heap[k]? = w.heap[k]?) : Moves B (B.with1 id s b v) w w' := by
  have hob : ∀ k, k = b → B.own k ∨ w.heap.size ≤ k := fun k e => by
    subst e
    rcases hb with hb | ⟨_, hb, _⟩
    · exact .inl (.inr (.inr (.inl ⟨s, hb⟩)))
    · exact .inr hb
  refine ⟨ho, ht, hu, hz, rfl, fun k hk hn => hbl k hk (fun e => hn (.inr (.inl e))) (fun e => hn (.inl e)) (fun e => by
    rcases hob k e with h1 | h1
    · exact hn h1
    · omega) (fun v0 h0 hk0 => hn (.inr (.inr (.inr ⟨id, v0, h0, hk0⟩)))), fun k hk => ?_⟩
  rcases hk with rfl | rfl | ⟨t, ht⟩ | ⟨x, v1, hx, hk⟩
  · exact .inl (.inl rfl)
  · exact .inl (.inr (.inl rfl))
  · by_cases e : t = s
    · have eb : b = k := by simpa [Tb.with1, e] using ht
      exact hob k eb.symm
    · exact .inl (.inr (.inr (.inl ⟨t, by simpa [Tb.with1, e] using ht⟩)))
  · by_cases e : x = id
    · have ev : v = v1 := by simpa [Tb.with1, e] using hx
      subst ev
      rcases hv k hk with ⟨v0, a1, a2⟩ | a1
      · exact .inl (.inr (.inr (.inr ⟨id, v0, a1, a2⟩)))
      · exact .inr a1
    · exact .inl (.inr (.inr (.inr ⟨x, v1, by simpa [Tb.with1, e] using hx, hk⟩)))
end
end Go.Proofs.Ytffjdjbjkjefoaa
