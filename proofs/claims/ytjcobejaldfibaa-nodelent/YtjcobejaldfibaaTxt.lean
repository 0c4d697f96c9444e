/- Texts in memory: rows of slices of bytes; what is a call's own. -/
import Derived.Test.YtjcobejaldfibaaSteps
import Derived.Deep.CutBlock
namespace Go.Proofs.Ytjcobejaldfibaa
open Go.RowKit
set_option linter.unusedVariables false
set_option linter.unusedSimpArgs false

structure Bts (w0 w : World) (v : Value) (X : List UInt8) : Prop where
  below : Below w0.heap.size w0 w
  own : w.ownsRow w0.heap.size 5 1 v X.length (secCells X)
theorem Bts.belowW {w0 w w' : World} {v : Value} {X : List UInt8} (h : Bts w0 w v X) (hb : Below w.heap.size w w') : Bts w0 w' v X :=
  ⟨h.below.trans (hb.mono h.below.size), owns_below h.own hb (Nat.le_refl _)⟩
theorem Bts.sl {w0 w : World} {v : Value} {X : List UInt8} (h : Bts w0 w v X) : Sl w v X := Row.of_owns h.own
theorem Bts.nil {w0 w : World} (h : Below w0.heap.size w0 w) : Bts w0 w (.slice none 0 0) [] := ⟨h, World.ownsRow_nil _ _ _ _⟩
theorem Bts.alloc {w0 w : World} {v : Value} {X : List UInt8} (h : Bts w0 w v X) (o : Obj) : Bts w0 (w.alloc o) v X := h.belowW ((Below.refl _ _).alloc (Nat.le_refl _) _)
theorem Bts.drewN {w0 w : World} {v : Value} {X : List UInt8} (h : Bts w0 w v X) (m : Nat) : Bts w0 (w.drewN m) v X := h.belowW (below_drewN _ _ m)
theorem grown_below {w0 w w' : World} {u : Value} {n : Nat} {xs : List Value} {e : TypeId} {sz : Nat} (hb : Below w0.heap.size w0 w) (hu : w.ownsRow w0.heap.size e sz u n xs) (hg : w.grownBy w' u.ownBlock) : Below w0.heap.size w0 w' := by
  have hOff : Off (match u.ownBlock with | some k => [k] | none => []) w w' := (Off.refl _ _).grown hg (fun k hk => .inl (by rw [hk]; simp))
  refine hb.trans (hOff.below hb.size (fun k hk => ?_))
  cases hv : u.ownBlock with
  | none => rw [hv] at hk; simp at hk
  | some j =>
    rw [hv] at hk
    simp at hk
    subst hk
    exact (hu.lt k hv).1
theorem Bts.grow {w0 w w' : World} {u u' : Value} {A C : List UInt8} (h : Bts w0 w u A) (ho : w'.ownsRow w0.heap.size 5 1 u' (A.length + C.length) (secCells A ++ secCells C)) (hg : w.grownBy w' u.ownBlock) : Bts w0 w' u' (A ++ C) :=
  ⟨grown_below h.below h.own hg, by rw [List.length_append, secCells_append]; exact ho⟩
theorem grown_rec {w w' : World} {base rb n : Nat} {u : Value} {xs : List Value} {C : Array Value} {t e : TypeId} {sz : Nat} {fr : Nat × Nat} (hu : w.ownsRow base e sz u n xs) (hg : w.grownBy w' u.ownBlock) (hr : w.heap[rb]? = some (.cells C t fr)) (ht : t ≠ e) : w'.heap[rb]? = some (.cells C t fr) :=
  (hg.block rb (lt_of_heap hr) (fun e => owns_ne hu hr ht e.symm)).trans hr
/-- Blocks of other types than e stay. -/
def Oth (e : TypeId) (w w' : World) : Prop := ∀ (b : Nat) (C : Array Value) (t : TypeId) (fr : Nat × Nat), t ≠ e → w.heap[b]? = some (.cells C t fr) → w'.heap[b]? = some (.cells C t fr)
theorem Oth.refl (e : TypeId) (w : World) : Oth e w w := fun _ _ _ _ _ h => h
theorem Oth.trans {e : TypeId} {a b c : World} (h : Oth e a b) (k : Oth e b c) : Oth e a c := fun q C t fr ht hq => k q C t fr ht (h q C t fr ht hq)
theorem Oth.below {e : TypeId} {a b c : World} (h : Oth e a b) (k : Below b.heap.size b c) : Oth e a c := fun q C t fr ht hq => have := h q C t fr ht hq; (k.block q (lt_of_heap this)).trans this
theorem Oth.alloc {e : TypeId} {a b : World} (h : Oth e a b) (o : Obj) : Oth e a (b.alloc o) := h.below ((Below.refl _ _).alloc (Nat.le_refl _) _)
theorem Oth.grown {e : TypeId} {a b c : World} {base n : Nat} {u : Value} {xs : List Value} {sz : Nat} (h : Oth e a b) (hu : b.ownsRow base e sz u n xs) (hg : b.grownBy c u.ownBlock) : Oth e a c := fun q C t fr ht hq => grown_rec hu hg (h q C t fr ht hq) ht
theorem wpList_append_bts {ops : Array Oper} {rest : List Oper} {o : Oper} {a : Act} {w : World} {Q : Exit → Act → World → Prop}
    (hg : o.guard = none) (s x : Operand) (hop : o.op = Op.call { callee := Callee.builtin Builtin.append, args := #[s, x], argTypes := #[28, 28] })
    (w0 : World) (u y : Value) (A C : List UInt8) (hs : a.eval s = u) (hy : a.eval x = y) (h : Bts w0 w u A) (hx : Sl w y C) (hl : A.length + C.length ≤ 140737488355328)
    (hK : ∀ u' w', Bts w0 w' u' (A ++ C) → w.grownBy w' u.ownBlock → wpList Try.prog ops Q rest (a.put o.dst u') w') :
    wpList Try.prog ops Q (o :: rest) a w := by
  refine wpList_append_row hg s x 28 hop w0.heap.size 5 (.int .u8 0) 1 1 Try.underlying28 Try.info5 rfl (by omega) u A.length (secCells A) y C.length (secCells C) hs hy h.own hx (by rw [length_secCells]; omega) (one_secCells C) (by omega) (by omega) h.below.size ?_
  intro v' w' r1 r2
  exact hK v' w' (h.grow r1 r2) r2
theorem build1 (x : Int) (w : World) : (Instr.buildSlice 28 1 #[(0, .int .u8 x)]).run Try.prog w = .ok (.slice (some ⟨w.heap.size, 0, none⟩) 1 1) (w.alloc (.cells #[.int .u8 x] 5)) := by kernel_rfl
theorem sl1 (w : World) (c : UInt8) (fr : Nat × Nat) : Sl (w.alloc (.cells #[.int .u8 (c.toNat : Int)] 5 fr)) (.slice (some ⟨w.heap.size, 0, none⟩) 1 1) [c] :=
  ⟨_, 1, rfl, Nat.le_refl _, by simp only [maxLen]; omega, fun _ => ⟨w.heap.size, 0, rfl, fun j u hu => by
    rw [Nat.zero_add, cell_row (heap_alloc_new w _)]
    simpa [secCells, bcell] using hu⟩⟩

/-! ### Rows of texts -/
def Txts (w : World) : List Value → List (List UInt8) → Prop
  | [], [] => True
  | u :: us, l :: ls => Sl w u l ∧ Txts w us ls
  | _, _ => False
theorem Txts.len {w : World} : ∀ {us : List Value} {L : List (List UInt8)}, Txts w us L → us.length = L.length
  | [], [], _ => rfl
  | _ :: _, _ :: _, h => by simp [Txts.len h.2]
theorem Txts.get {w : World} : ∀ {us : List Value} {L : List (List UInt8)}, Txts w us L → ∀ i, i < L.length → ∃ u, us[i]? = some u ∧ Sl w u (L.getD i [])
  | [], [], _, i, hi => by simp at hi
  | u :: us, l :: ls, h, 0, hi => ⟨u, rfl, h.1⟩
  | u :: us, l :: ls, h, i + 1, hi => by
    obtain ⟨x, hx, hs⟩ := h.2.get i (by simpa using hi)
    exact ⟨x, by simpa using hx, by simpa using hs⟩
theorem Txts.append {w : World} : ∀ {us : List Value} {L : List (List UInt8)} {vs : List Value} {M : List (List UInt8)}, Txts w us L → Txts w vs M → Txts w (us ++ vs) (L ++ M)
  | [], [], _, _, _, k => k
  | _ :: _, _ :: _, _, _, h, k => ⟨h.1, h.2.append k⟩
theorem Txts.take {w : World} : ∀ {us : List Value} {L : List (List UInt8)} (n : Nat), Txts w us L → Txts w (us.take n) (L.take n)
  | [], [], n, _ => by simp [Txts]
  | _ :: _, _ :: _, 0, h => trivial
  | _ :: _, _ :: _, n + 1, h => ⟨h.1, h.2.take n⟩
theorem Txts.drop {w : World} : ∀ {us : List Value} {L : List (List UInt8)} (n : Nat), Txts w us L → Txts w (us.drop n) (L.drop n)
  | [], [], n, _ => by simp [Txts]
  | _ :: _, _ :: _, 0, h => h
  | _ :: _, _ :: _, n + 1, h => h.2.drop n
theorem Txts.below {w w' : World} {B : Nat} (hb : Below B w w') (hB : w.heap.size ≤ B) : ∀ {us : List Value} {L : List (List UInt8)}, Txts w us L → Txts w' us L
  | [], [], _ => trivial
  | _ :: _, _ :: _, h => ⟨h.1.below hb hB, h.2.below hb hB⟩
theorem Txts.one {w : World} : ∀ {us : List Value} {L : List (List UInt8)}, Txts w us L → ∀ u ∈ us, u.oneCell' = true
  | [], [], _, u, hu => by cases hu
  | x :: us, l :: ls, h, u, hu => by
    cases List.mem_cons.1 hu with
    | inl e =>
      subst e
      obtain ⟨ao, c, rfl, _⟩ := h.1.len
      rfl
    | inr e => exact h.2.one u e
def TsAt (w : World) (v : Value) (L : List (List UInt8)) : Prop := ∃ us, Txts w us L ∧ Row w v L.length us
theorem TsAt.len {w : World} {v : Value} {L : List (List UInt8)} (h : TsAt w v L) : ∃ ao c, v = .slice ao L.length c ∧ L.length ≤ c ∧ c ≤ maxLen := let ⟨us, _, ao, c, e, h1, h2, _⟩ := h; ⟨ao, c, e, h1, h2⟩
theorem TsAt.nil (w : World) : TsAt w (.slice none 0 0) [] := ⟨[], trivial, Row.nil w⟩
theorem TsAt.below {w w' : World} {v : Value} {L : List (List UInt8)} {B : Nat} (h : TsAt w v L) (hb : Below B w w') (hB : w.heap.size ≤ B) : TsAt w' v L := let ⟨us, h1, h2⟩ := h; ⟨us, h1.below hb hB, h2.below hb hB⟩
theorem TsAt.belowW {w w' : World} {v : Value} {L : List (List UInt8)} (h : TsAt w v L) (hb : Below w.heap.size w w') : TsAt w' v L := h.below hb (Nat.le_refl _)
theorem TsAt.get {w : World} {ao : Option Addr} {n c : Nat} {L : List (List UInt8)} (h : TsAt w (.slice ao n c) L) (i : Nat) (hi : i < L.length) :
    ∃ g o a d, ao = some ⟨g, o, none⟩ ∧ w.cell? ⟨g, o + i, none⟩ = some (.slice a (L.getD i []).length d) ∧ Sl w (.slice a (L.getD i []).length d) (L.getD i []) ∧ (L.getD i []).length ≤ d ∧ d ≤ maxLen := by
  obtain ⟨us, ht, ao', c', e, h1, h2, h3⟩ := h
  injection e with e1 e2 e3
  subst e1
  obtain ⟨u, hu, hs⟩ := ht.get i hi
  obtain ⟨g, o, ea, hr⟩ := h3 (fun h0 => by rw [h0] at hu; simp at hu)
  obtain ⟨a, d, rfl, d1, d2⟩ := hs.len
  exact ⟨g, o, a, d, ea, hr i _ hu, hs, d1, d2⟩
theorem Row.cut_to {w : World} {ao : Option Addr} {n c : Nat} {us : List Value} (h : Row w (.slice ao n c) n us) (k : Nat) (hk : k ≤ n) : Row w (.slice ao k c) k (us.take k) := by
  obtain ⟨ao', c', e, h1, h2, h3⟩ := h
  injection e with e1 e2 e3
  subst e1 e3
  refine ⟨ao, c, rfl, by omega, h2, fun hx => ?_⟩
  obtain ⟨g, o, ea, hr⟩ := h3 (fun h0 => hx (by rw [h0]; simp))
  refine ⟨g, o, ea, fun j u hu => hr j u ?_⟩
  rw [List.getElem?_take] at hu
  split at hu
  · exact hu
  · simp at hu
theorem Row.cut_from {w : World} {ao : Option Addr} {n c : Nat} {us : List Value} (h : Row w (.slice ao n c) n us) (hl : us.length = n) (l : Nat) (hk : l ≤ n) : Row w (.slice (cutAt ao c l) (n - l) (c - l)) (n - l) (us.drop l) := by
  obtain ⟨ao', c', e, h1, h2, h3⟩ := h
  injection e with e1 e2 e3
  subst e1 e3
  refine ⟨_, c - l, rfl, by omega, by omega, fun hx => ?_⟩
  obtain ⟨g, o, ea, hr⟩ := h3 (fun h0 => hx (by rw [h0]; simp))
  subst ea
  have hlt : l < n := by
    rcases Nat.lt_or_ge l n with h | h
    · exact h
    · exact absurd (List.drop_of_length_le (by omega)) hx
  refine ⟨g, o + l, by unfold cutAt; rw [if_neg (by omega)]; simp [Addr.add_mid], fun j u hu => ?_⟩
  rw [List.getElem?_drop] at hu
  rw [Nat.add_assoc]
  exact hr (l + j) u hu
theorem TsAt.to {w : World} {ao : Option Addr} {n c : Nat} {L : List (List UInt8)} (h : TsAt w (.slice ao n c) L) (k : Nat) (hk : k ≤ L.length) : TsAt w (.slice ao k c) (L.take k) := by
  obtain ⟨us, ht, hr⟩ := h
  have hn : n = L.length := by obtain ⟨_, _, e, _⟩ := hr; injection e
  subst hn
  refine ⟨us.take k, ht.take k, ?_⟩
  rw [List.length_take, Nat.min_eq_left hk]
  exact hr.cut_to k hk
theorem TsAt.from {w : World} {ao : Option Addr} {n c : Nat} {L : List (List UInt8)} (h : TsAt w (.slice ao n c) L) (k : Nat) (hk : k ≤ L.length) : TsAt w (.slice (cutAt ao c k) (L.length - k) (c - k)) (L.drop k) := by
  obtain ⟨us, ht, hr⟩ := h
  have hn : n = L.length := by obtain ⟨_, _, e, _⟩ := hr; injection e
  subst hn
  refine ⟨us.drop k, ht.drop k, ?_⟩
  rw [List.length_drop]
  exact hr.cut_from ht.len k hk

/-! ### Rows of texts that are a call's own -/
def OwnT (base : Nat) (w : World) : List Value → List (List UInt8) → Prop
  | [], [] => True
  | u :: us, l :: ls => w.ownsRow base 5 1 u l.length (secCells l) ∧ OwnT base w us ls
  | _, _ => False
theorem OwnT.txts {base : Nat} {w : World} : ∀ {us : List Value} {L : List (List UInt8)}, OwnT base w us L → Txts w us L
  | [], [], _ => trivial
  | _ :: _, _ :: _, h => ⟨Row.of_owns h.1, h.2.txts⟩
theorem OwnT.append {base : Nat} {w : World} : ∀ {us : List Value} {L : List (List UInt8)} {vs : List Value} {M : List (List UInt8)}, OwnT base w us L → OwnT base w vs M → OwnT base w (us ++ vs) (L ++ M)
  | [], [], _, _, _, k => k
  | _ :: _, _ :: _, _, _, h, k => ⟨h.1, h.2.append k⟩
theorem OwnT.take {base : Nat} {w : World} : ∀ {us : List Value} {L : List (List UInt8)} (n : Nat), OwnT base w us L → OwnT base w (us.take n) (L.take n)
  | [], [], n, _ => by simp [OwnT]
  | _ :: _, _ :: _, 0, h => trivial
  | _ :: _, _ :: _, n + 1, h => ⟨h.1, h.2.take n⟩
theorem OwnT.drop {base : Nat} {w : World} : ∀ {us : List Value} {L : List (List UInt8)} (n : Nat), OwnT base w us L → OwnT base w (us.drop n) (L.drop n)
  | [], [], n, _ => by simp [OwnT]
  | _ :: _, _ :: _, 0, h => h
  | _ :: _, _ :: _, n + 1, h => h.2.drop n
/-- They stay where every block of bytes stays. -/
theorem OwnT.stay {base : Nat} {w w' : World} (hs : ∀ (k : Nat) (C : Array Value) (fr : Nat × Nat), base ≤ k → w.heap[k]? = some (.cells C 5 fr) → w'.heap[k]? = w.heap[k]?) : ∀ {us : List Value} {L : List (List UInt8)}, OwnT base w us L → OwnT base w' us L
  | [], [], _ => trivial
  | u :: _, l :: _, h => by
    refine ⟨owns_stay h.1 (fun k hk => ?_), h.2.stay hs⟩
    rcases h.1.2 with ⟨rfl, _⟩ | ⟨g, cap, cur, rfl, hb, hg, _⟩
    · simp [Value.ownBlock] at hk
    · have : g = k := by simpa [Value.ownBlock] using hk
      subst this
      exact hs g _ _ hb hg
theorem OwnT.below {base B : Nat} {w w' : World} (hb : Below B w w') (hB : w.heap.size ≤ B) {us : List Value} {L : List (List UInt8)} (h : OwnT base w us L) : OwnT base w' us L :=
  h.stay (fun k C fr _ hk => hb.block k (Nat.lt_of_lt_of_le (lt_of_heap hk) hB))
theorem OwnT.mono {base base' : Nat} {w : World} (hb : base' ≤ base) : ∀ {us : List Value} {L : List (List UInt8)}, OwnT base w us L → OwnT base' w us L
  | [], [], _ => trivial
  | _ :: _, _ :: _, h => ⟨owns_mono h.1 hb, h.2.mono hb⟩
theorem OwnT.len {base : Nat} {w : World} {us : List Value} {L : List (List UInt8)} (h : OwnT base w us L) : us.length = L.length := h.txts.len
theorem OwnT.one {base : Nat} {w : World} {us : List Value} {L : List (List UInt8)} (h : OwnT base w us L) : ∀ u ∈ us, u.oneCell' = true := h.txts.one
structure TsOwn (base : Nat) (w : World) (v : Value) (L : List (List UInt8)) : Prop where
  out : ∃ us, OwnT base w us L ∧ w.ownsRow base 28 1 v L.length us
theorem TsOwn.at {base : Nat} {w : World} {v : Value} {L : List (List UInt8)} (h : TsOwn base w v L) : TsAt w v L := let ⟨us, h1, h2⟩ := h.out; ⟨us, h1.txts, Row.of_owns h2⟩
theorem TsOwn.below {base B : Nat} {w w' : World} {v : Value} {L : List (List UInt8)} (h : TsOwn base w v L) (hb : Below B w w') (hB : w.heap.size ≤ B) : TsOwn base w' v L :=
  let ⟨us, h1, h2⟩ := h.out
  ⟨us, h1.below hb hB, owns_below h2 hb hB⟩
theorem TsOwn.belowW {base : Nat} {w w' : World} {v : Value} {L : List (List UInt8)} (h : TsOwn base w v L) (hb : Below w.heap.size w w') : TsOwn base w' v L := h.below hb (Nat.le_refl _)
theorem TsOwn.mono {base base' : Nat} {w : World} {v : Value} {L : List (List UInt8)} (h : TsOwn base w v L) (hb : base' ≤ base) : TsOwn base' w v L :=
  let ⟨us, h1, h2⟩ := h.out
  ⟨us, h1.mono hb, owns_mono h2 hb⟩
theorem TsOwn.nil (base : Nat) (w : World) : TsOwn base w (.slice none 0 0) [] := ⟨[], trivial, World.ownsRow_nil _ _ _ _⟩
end Go.Proofs.Ytjcobejaldfibaa
