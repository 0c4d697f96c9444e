/- What may be spoilt: rows by their shape alone. -/
import Derived.Test.YtjcobejaldfibaaNod
namespace Go.Proofs.Ytjcobejaldfibaa
open Go.RowKit
set_option linter.unusedVariables false
set_option linter.unusedSimpArgs false

/-- One value that another may come to stand for: a byte, an int, a slice that becomes nil. -/
def Cmp (u u' : Value) : Prop :=
  u' = u ∨ (∃ x y : Int, u = .int .u8 x ∧ u' = .int .u8 y ∧ 0 ≤ y ∧ y < 256) ∨ (∃ x y : Int, u = .int .i64 x ∧ u' = .int .i64 y) ∨ (∃ (a : Option Addr) (n c : Nat), u = .slice a n c ∧ u' = .slice none 0 0)
theorem Cmp.trans {u v x : Value} (h : Cmp u v) (k : Cmp v x) : Cmp u x := by
  rcases h with rfl | ⟨a, b, rfl, rfl, h1, h2⟩ | ⟨a, b, rfl, rfl⟩ | ⟨a, n, c, rfl, rfl⟩
  · exact k
  · rcases k with rfl | ⟨c, d, e, rfl, h3, h4⟩ | ⟨c, d, e, rfl⟩ | ⟨c, n, d, e, rfl⟩
    · exact .inr (.inl ⟨a, b, rfl, rfl, h1, h2⟩)
    · exact .inr (.inl ⟨a, d, rfl, rfl, h3, h4⟩)
    · cases e
    · cases e
  · rcases k with rfl | ⟨c, d, e, rfl, h3, h4⟩ | ⟨c, d, e, rfl⟩ | ⟨c, n, d, e, rfl⟩
    · exact .inr (.inr (.inl ⟨a, b, rfl, rfl⟩))
    · cases e
    · exact .inr (.inr (.inl ⟨a, d, rfl, rfl⟩))
    · cases e
  · rcases k with rfl | ⟨c', d, e, rfl, h3, h4⟩ | ⟨c', d, e, rfl⟩ | ⟨c', n', d, e, rfl⟩
    · exact .inr (.inr (.inr ⟨a, n, c, rfl, rfl⟩))
    · cases e
    · cases e
    · exact .inr (.inr (.inr ⟨a, n, c, rfl, rfl⟩))
/-- Rows of some types change their values, and nothing else changes. -/
structure TyK (ts : List TypeId) (base : Nat) (W W' : World) : Prop where
  below : Below base W W'
  same : ∀ (q : Nat) (C : Array Value) (t : TypeId), W.heap[q]? = some (.cells C t (0, 0)) → t ∈ ts → ∃ C' : Array Value, W'.heap[q]? = some (.cells C' t (0, 0)) ∧ ∀ (j : Nat) (u : Value), C[j]? = some u → ∃ u', C'[j]? = some u' ∧ Cmp u u'
  oth : ∀ (q : Nat) (C : Array Value) (t : TypeId) (fr : Nat × Nat), W.heap[q]? = some (.cells C t fr) → t ∉ ts → W'.heap[q]? = some (.cells C t fr)
theorem TyK.row {ts : List TypeId} {base : Nat} {W W' : World} (h : TyK ts base W W') {q : Nat} {C : Array Value} {t : TypeId} (hq : W.heap[q]? = some (.cells C t (0, 0))) : ∃ C' : Array Value, W'.heap[q]? = some (.cells C' t (0, 0)) ∧ ∀ (j : Nat) (u : Value), C[j]? = some u → ∃ u', C'[j]? = some u' ∧ Cmp u u' := by
  by_cases ht : t ∈ ts
  · exact h.same q C t hq ht
  · exact ⟨C, h.oth q C t _ hq ht, fun j u hu => ⟨u, hu, .inl rfl⟩⟩
theorem TyK.refl (ts : List TypeId) (base : Nat) (W : World) : TyK ts base W W := ⟨Below.refl _ _, fun q C t hq _ => ⟨C, hq, fun j u hu => ⟨u, hu, .inl rfl⟩⟩, fun q C t fr hq _ => hq⟩
theorem TyK.trans {ts : List TypeId} {base : Nat} {W W' W'' : World} (h : TyK ts base W W') (k : TyK ts base W' W'') : TyK ts base W W'' :=
  ⟨h.below.trans k.below, fun q C t hq ht => by
    obtain ⟨C', h1, h2⟩ := h.same q C t hq ht
    obtain ⟨C'', k1, k2⟩ := k.same q C' t h1 ht
    refine ⟨C'', k1, fun j u hu => ?_⟩
    obtain ⟨u', e1, e2⟩ := h2 j u hu
    obtain ⟨u'', e3, e4⟩ := k2 j u' e1
    exact ⟨u'', e3, e2.trans e4⟩, fun q C t fr hq ht => k.oth q C t fr (h.oth q C t fr hq ht) ht⟩
theorem TyK.mono {ts ts' : List TypeId} {base : Nat} {W W' : World} (h : TyK ts base W W') (hs : ∀ t ∈ ts, t ∈ ts') : TyK ts' base W W' :=
  ⟨h.below, fun q C t hq _ => h.row hq, fun q C t fr hq ht => h.oth q C t fr hq (fun e => ht (hs t e))⟩
theorem TyK.of_below {ts : List TypeId} {base : Nat} {W W' : World} (h : Below W.heap.size W W') (hb : base ≤ W.heap.size) : TyK ts base W W' :=
  ⟨h.mono hb, fun q C t hq _ => ⟨C, (h.block q (lt_of_heap hq)).trans hq, fun j u hu => ⟨u, hu, .inl rfl⟩⟩, fun q C t fr hq _ => (h.block q (lt_of_heap hq)).trans hq⟩
theorem TyK.set {ts : List TypeId} {base : Nat} {W : World} {g o : Nat} {C : Array Value} {t : TypeId} {u u' : Value} (hg : W.heap[g]? = some (.cells C t (0, 0))) (ht : t ∈ ts) (hb : base ≤ g) (ho : C[o]? = some u) (hc : Cmp u u') : TyK ts base W (W.setCell ⟨g, o, none⟩ u') := by
  refine ⟨below_set (Below.refl _ _) (by have := lt_of_heap hg; omega) _ _ _ hb, fun q D s hq _ => ?_, fun q D s fr hq hs => ?_⟩
  · by_cases e : q = g
    · subst e
      rw [hg] at hq
      injection hq with hq
      injection hq with e1 e2 e3
      subst e1 e2
      refine ⟨_, heap_set_same _ hg, fun j v hv => ?_⟩
      by_cases hj : j = o
      · subst hj
        rw [ho] at hv
        cases hv
        have := (Array.getElem?_eq_some_iff.1 ho).1
        exact ⟨u', by simp [this], hc⟩
      · refine ⟨v, ?_, .inl rfl⟩
        rw [Array.getElem?_setIfInBounds_ne (fun e => hj e.symm)]
        exact hv
    · exact ⟨D, (set_stay g o u' e).trans hq, fun j v hv => ⟨v, hv, .inl rfl⟩⟩
  · by_cases e : q = g
    · subst e
      rw [hg] at hq
      injection hq with hq
      injection hq with e1 e2 e3
      subst e2
      exact absurd ht hs
    · exact (set_stay g o u' e).trans hq
theorem TyK.box {ts : List TypeId} {base : Nat} {W W' : World} (h : TyK ts base W W') {t : TypeId} {b : Nat} {c0 c1 c2 c3 c4 : Value} (hb : Box t W b c0 c1 c2 c3 c4) (ht : t ∉ ts) : Box t W' b c0 c1 c2 c3 c4 := ⟨h.oth _ _ _ _ hb.heap ht⟩
/-- Bytes that may be written over. -/
def BySh (base : Nat) (W : World) (u : Value) : Prop :=
  ∃ (a : Option Addr) (n c : Nat), u = .slice a n c ∧ n ≤ 140737488355328 ∧ (0 < n → ∃ (g : Nat) (C : Array Value), a = some ⟨g, 0, none⟩ ∧ base ≤ g ∧ W.heap[g]? = some (.cells C 5 (0, 0)) ∧ ∀ j : Nat, j < n → ∃ x : Int, C[j]? = some (.int .u8 x) ∧ 0 ≤ x ∧ x < 256)
def InSh (base : Nat) (W : World) (u : Value) : Prop :=
  ∃ (a : Option Addr) (n c : Nat), u = .slice a n c ∧ n ≤ 140737488355328 ∧ (0 < n → ∃ (g : Nat) (C : Array Value), a = some ⟨g, 0, none⟩ ∧ base ≤ g ∧ W.heap[g]? = some (.cells C 3 (0, 0)) ∧ ∀ j : Nat, j < n → ∃ x : Int, C[j]? = some (.int .i64 x))
def TxSh (base : Nat) (W : World) (u : Value) : Prop :=
  ∃ (a : Option Addr) (n c : Nat), u = .slice a n c ∧ n ≤ 140737488355328 ∧ (0 < n → ∃ (g : Nat) (C : Array Value), a = some ⟨g, 0, none⟩ ∧ base ≤ g ∧ W.heap[g]? = some (.cells C 28 (0, 0)) ∧ ∀ j : Nat, j < n → ∃ v, C[j]? = some v ∧ BySh base W v)
theorem BySh.nil (base : Nat) (W : World) : BySh base W (.slice none 0 0) := ⟨none, 0, 0, rfl, by omega, fun h => by omega⟩
theorem BySh.keep {ts : List TypeId} {base : Nat} {W W' : World} {u : Value} (h : BySh base W u) (k : TyK ts base W W') : BySh base W' u := by
  obtain ⟨a, n, c, rfl, hn, h1⟩ := h
  refine ⟨a, n, c, rfl, hn, fun hp => ?_⟩
  obtain ⟨g, C, ea, hg, hC, hj⟩ := h1 hp
  obtain ⟨C', hC', hs⟩ := k.row hC
  refine ⟨g, C', ea, hg, hC', fun j hjn => ?_⟩
  obtain ⟨x, hx, hx1, hx2⟩ := hj j hjn
  obtain ⟨u', hu', hc⟩ := hs j _ hx
  rcases hc with rfl | ⟨p, q, _, rfl, q1, q2⟩ | ⟨p, q, e, _⟩ | ⟨p, q, r, e, _⟩
  · exact ⟨x, hu', hx1, hx2⟩
  · exact ⟨q, hu', q1, q2⟩
  · cases e
  · cases e
theorem InSh.keep {ts : List TypeId} {base : Nat} {W W' : World} {u : Value} (h : InSh base W u) (k : TyK ts base W W') : InSh base W' u := by
  obtain ⟨a, n, c, rfl, hn, h1⟩ := h
  refine ⟨a, n, c, rfl, hn, fun hp => ?_⟩
  obtain ⟨g, C, ea, hg, hC, hj⟩ := h1 hp
  obtain ⟨C', hC', hs⟩ := k.row hC
  refine ⟨g, C', ea, hg, hC', fun j hjn => ?_⟩
  obtain ⟨x, hx⟩ := hj j hjn
  obtain ⟨u', hu', hc⟩ := hs j _ hx
  rcases hc with rfl | ⟨p, q, e, _, _, _⟩ | ⟨p, q, _, rfl⟩ | ⟨p, q, r, e, _⟩
  · exact ⟨x, hu'⟩
  · cases e
  · exact ⟨q, hu'⟩
  · cases e
theorem TxSh.keep {ts : List TypeId} {base : Nat} {W W' : World} {u : Value} (h : TxSh base W u) (k : TyK ts base W W') : TxSh base W' u := by
  obtain ⟨a, n, c, rfl, hn, h1⟩ := h
  refine ⟨a, n, c, rfl, hn, fun hp => ?_⟩
  obtain ⟨g, C, ea, hg, hC, hj⟩ := h1 hp
  obtain ⟨C', hC', hs⟩ := k.row hC
  refine ⟨g, C', ea, hg, hC', fun j hjn => ?_⟩
  obtain ⟨v, hv, hb⟩ := hj j hjn
  obtain ⟨u', hu', hc⟩ := hs j _ hv
  refine ⟨u', hu', ?_⟩
  rcases hc with rfl | ⟨p, q, rfl, _, _, _⟩ | ⟨p, q, rfl, _⟩ | ⟨p, q, r, _, rfl⟩
  · exact hb.keep k
  · obtain ⟨_, _, _, e, _⟩ := hb; cases e
  · obtain ⟨_, _, _, e, _⟩ := hb; cases e
  · exact BySh.nil _ _
/-- An owned row has its shape. -/
theorem owns_shape {w : World} {base : Nat} {e : TypeId} {v : Value} {n : Nat} {xs : List Value} (h : w.ownsRow base e 1 v n xs) : ∃ a c, v = .slice a n c ∧ (0 < n → ∃ (g : Nat) (C : Array Value), a = some ⟨g, 0, none⟩ ∧ base ≤ g ∧ w.heap[g]? = some (.cells C e (0, 0)) ∧ ∀ j : Nat, j < n → C[j]? = xs[j]?) := by
  rcases h.2 with ⟨rfl, rfl⟩ | ⟨g, cap, cur, rfl, hb, hg, h1, h2, h3, h4⟩
  · exact ⟨none, 0, rfl, fun h => by omega⟩
  · refine ⟨_, cap, rfl, fun _ => ⟨g, cur, rfl, hb, hg, fun j hj => ?_⟩⟩
    rw [← h4, Nat.mul_one, List.getElem?_take_of_lt hj]
    simp
theorem BySh.of {w : World} {base : Nat} {v : Value} {l : List UInt8} (h : w.ownsRow base 5 1 v l.length (secCells l)) (hl : l.length ≤ 140737488355328) : BySh base w v := by
  obtain ⟨a, c, rfl, h1⟩ := owns_shape h
  refine ⟨a, _, c, rfl, hl, fun hp => ?_⟩
  obtain ⟨g, C, ea, hg, hC, hj⟩ := h1 hp
  refine ⟨g, C, ea, hg, hC, fun j hjn => ⟨_, (hj j hjn).trans (secCells_get l j hjn), ?_⟩⟩
  exact ⟨by omega, by have := UInt8.toNat_lt (l[j]); omega⟩
theorem InSh.of {w : World} {base : Nat} {v : Value} {l : List Int} (h : w.ownsRow base 3 1 v l.length (intCells l)) (hl : l.length ≤ 140737488355328) : InSh base w v := by
  obtain ⟨a, c, rfl, h1⟩ := owns_shape h
  refine ⟨a, _, c, rfl, hl, fun hp => ?_⟩
  obtain ⟨g, C, ea, hg, hC, hj⟩ := h1 hp
  refine ⟨g, C, ea, hg, hC, fun j hjn => ⟨l[j], (hj j hjn).trans ?_⟩⟩
  simp [intCells, icell, hjn]
theorem TxSh.of {w : World} {base : Nat} {v : Value} {L : List (List UInt8)} (h : TsOwn base w v L) (hl : L.length ≤ 140737488355328) (hk : ∀ k ∈ L, k.length ≤ 140737488355328) : TxSh base w v := by
  obtain ⟨us, h1, h2⟩ := h.out
  obtain ⟨a, c, rfl, h3⟩ := owns_shape h2
  refine ⟨a, _, c, rfl, hl, fun hp => ?_⟩
  obtain ⟨g, C, ea, hg, hC, hj⟩ := h3 hp
  refine ⟨g, C, ea, hg, hC, fun j hjn => ?_⟩
  have : ∀ (us : List Value) (L : List (List UInt8)), OwnT base w us L → (∀ k ∈ L, k.length ≤ 140737488355328) → ∀ j, j < L.length → ∃ v, us[j]? = some v ∧ BySh base w v := by
    intro us L
    induction L generalizing us with
    | nil => intro _ _ j hj; simp at hj
    | cons l r ih =>
      intro ho hk j hj
      match us, ho with
      | u :: us, ho =>
        match j with
        | 0 => exact ⟨u, rfl, BySh.of ho.1 (hk l (by simp))⟩
        | j + 1 =>
          obtain ⟨v, hv, hb⟩ := ih us ho.2 (fun k hm => hk k (by simp [hm])) j (by simpa using hj)
          exact ⟨v, by simpa using hv, hb⟩
  obtain ⟨v, hv, hb⟩ := this us L h1 hk j hjn
  exact ⟨v, (hj j hjn).trans hv, hb⟩
/-- A node that may be spoilt. -/
structure NdSh (base : Nat) (W : World) (a b c : Value) : Prop where
  keys : TxSh base W a
  vals : TxSh base W b
  kids : InSh base W c
theorem NdSh.keep {ts : List TypeId} {base : Nat} {W W' : World} {a b c : Value} (h : NdSh base W a b c) (k : TyK ts base W W') : NdSh base W' a b c := ⟨h.keys.keep k, h.vals.keep k, h.kids.keep k⟩
theorem NdSh.of {base : Nat} {w : World} {N : Nd} {a b c : Value} (h : NdOwn base w N a b c) (hf : Fits N) : NdSh base w a b c :=
  ⟨TxSh.of h.keys (by have := hf.keys; omega) hf.key, TxSh.of h.vals (by have := hf.vals; omega) hf.val, InSh.of h.kids (by have := hf.kids; omega)⟩
end Go.Proofs.Ytjcobejaldfibaa
