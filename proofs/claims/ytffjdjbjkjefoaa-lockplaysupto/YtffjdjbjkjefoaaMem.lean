/- Rows of cells in memory: what may be read, what is owned; appends. -/
import Derived.Test.YtffjdjbjkjefoaaPure
import Derived.WalkSpells
import Derived.WalkLawsBesides
import Derived.Deep.MidRow
import Derived.Deep.OwnRows
import Derived.Deep.AppendSrc
import Derived.ArgAppend
import Derived.Below
import Derived.Laws.BytesString
namespace Go.Proofs.Ytffjdjbjkjefoaa
open Go.RowKit
set_option linter.unusedVariables false
set_option linter.unusedSimpArgs false

def bcell (b : UInt8) : Value := .int .u8 (b.toNat : Int)
def icell (x : Int) : Value := .int .i64 x
def secCells (s : List UInt8) : List Value := s.map bcell
def intCells (l : List Int) : List Value := l.map icell
theorem length_secCells (s : List UInt8) : (secCells s).length = s.length := by simp [secCells]
theorem one_secCells (s : List UInt8) : ∀ v ∈ secCells s, v.oneCell' = true := by
  intro v hv
  obtain ⟨b, _, rfl⟩ := List.mem_map.1 hv
  rfl
theorem secCells_append (a b : List UInt8) : secCells (a ++ b) = secCells a ++ secCells b := by simp [secCells]
theorem secCells_get (bs : List UInt8) (k : Nat) (h : k < bs.length) : (secCells bs)[k]? = some (.int .u8 (bs[k].toNat : Int)) := by simp [secCells, bcell, h]

theorem cell_row {w : World} {b o : Nat} {C : Array Value} {t : TypeId} {fr : Nat × Nat} (h : w.heap[b]? = some (.cells C t fr)) : w.cell? ⟨b, o, none⟩ = C[o]? := by simp [World.cell?, h]

/-! ### A slice that may be read -/
def Row (w : World) (v : Value) (n : Nat) (xs : List Value) : Prop :=
  ∃ ao c, v = .slice ao n c ∧ n ≤ c ∧ c ≤ maxLen ∧ (xs ≠ [] → ∃ g o, ao = some ⟨g, o, none⟩ ∧ w.rangeAt g o xs)
theorem Row.nil (w : World) : Row w (.slice none 0 0) 0 [] := ⟨none, 0, rfl, Nat.le_refl _, Nat.zero_le _, fun h => absurd rfl h⟩
theorem rangeAt_below {B : Nat} {w w' : World} {g o : Nat} {xs : List Value} (h : w.rangeAt g o xs) (hb : Below B w w') (hB : w.heap.size ≤ B) : w'.rangeAt g o xs := fun j u hu => by
  have h1 := h j u hu
  exact (hb.cell (p := ⟨g, o + j, none⟩) (Nat.lt_of_lt_of_le (World.block_lt_of_cell? w _ h1) hB)).trans h1
theorem Row.below {B : Nat} {w w' : World} {v : Value} {n : Nat} {xs : List Value} (h : Row w v n xs) (hb : Below B w w') (hB : w.heap.size ≤ B) : Row w' v n xs := by
  obtain ⟨ao, c, rfl, h1, h2, h3⟩ := h
  exact ⟨ao, c, rfl, h1, h2, fun hx => let ⟨g, o, e, hr⟩ := h3 hx; ⟨g, o, e, rangeAt_below hr hb hB⟩⟩
theorem Row.belowW {w w' : World} {v : Value} {n : Nat} {xs : List Value} (h : Row w v n xs) (hb : Below w.heap.size w w') : Row w' v n xs := h.below hb (Nat.le_refl _)
theorem Row.of_owns {w : World} {base : Nat} {e : TypeId} {size : Nat} {v : Value} {n : Nat} {xs : List Value} (h : w.ownsRow base e size v n xs) : Row w v n xs := by
  rcases h.2 with ⟨rfl, rfl⟩ | ⟨g, cap, cur, rfl, _, hg, h1, h2, h3, h4⟩
  · have : xs = [] := List.eq_nil_of_length_eq_zero (by simpa using h.1)
    subst this
    exact Row.nil w
  · refine ⟨_, _, rfl, h1, h2, fun _ => ⟨g, 0, rfl, fun j u hu => ?_⟩⟩
    rw [Nat.zero_add, cell_row hg]
    rw [← h4] at hu
    have hj := (List.getElem?_eq_some_iff.1 hu).1
    rw [List.length_take] at hj
    rw [List.getElem?_take_of_lt (by omega)] at hu
    simpa using hu

/-! ### What stays as it was -/
structure Off (fp : List Nat) (w w' : World) : Prop where
  os : w'.os = w.os
  tape : w'.tape = w.tape
  output : w'.output = w.output
  size : w.heap.size ≤ w'.heap.size
  block : ∀ k, k < w.heap.size → k ∉ fp → w'.heap[k]? = w.heap[k]?
theorem Off.refl (fp : List Nat) (w : World) : Off fp w w := ⟨rfl, rfl, rfl, Nat.le_refl _, fun _ _ _ => rfl⟩
theorem Off.trans {fp fp' : List Nat} {a b c : World} (h : Off fp a b) (k : Off fp' b c) (hfp : ∀ i ∈ fp', i ∈ fp ∨ a.heap.size ≤ i) : Off fp a c :=
  ⟨k.os.trans h.os, k.tape.trans h.tape, k.output.trans h.output, Nat.le_trans h.size k.size, fun i hi hn =>
    (k.block i (Nat.lt_of_lt_of_le hi h.size) (fun hm => by rcases hfp i hm with h1 | h1; exact hn h1; omega)).trans (h.block i hi hn)⟩
theorem Off.mono {fp fp' : List Nat} {a b : World} (h : Off fp a b) (hs : ∀ i ∈ fp, i ∈ fp') : Off fp' a b :=
  ⟨h.os, h.tape, h.output, h.size, fun k hk hn => h.block k hk (fun hm => hn (hs k hm))⟩
theorem Off.below {fp : List Nat} {a b : World} (h : Off fp a b) {B : Nat} (hB : B ≤ a.heap.size) (hf : ∀ k ∈ fp, B ≤ k) : Below B a b :=
  ⟨h.os, h.tape, h.output, h.size, fun k hk => h.block k (by omega) (fun hm => by have := hf k hm; omega)⟩
theorem Off.of_below {a b : World} (h : Below a.heap.size a b) (fp : List Nat) : Off fp a b :=
  ⟨h.os, h.tape, h.output, h.size, fun k hk _ => h.block k hk⟩
theorem Off.alloc {fp : List Nat} {a w : World} (h : Off fp a w) (o : Obj) : Off fp a (w.alloc o) :=
  ⟨h.os, h.tape, h.output, by have := h.size; simp; omega, fun k hk hn => (Below.heap_alloc _ _ _ (Nat.lt_of_lt_of_le hk h.size)).trans (h.block k hk hn)⟩
theorem Off.drew {fp : List Nat} {a w : World} (h : Off fp a w) : Off fp a w.drew := ⟨h.os, h.tape, h.output, h.size, h.block⟩
theorem Off.drewN {fp : List Nat} {a w : World} (h : Off fp a w) (m : Nat) : Off fp a (w.drewN m) := ⟨h.os, h.tape, h.output, h.size, h.block⟩
theorem Off.setCell {fp : List Nat} {a w : World} (h : Off fp a w) (p : Addr) (u : Value) (hp : p.block ∈ fp ∨ a.heap.size ≤ p.block) : Off fp a (w.setCell p u) :=
  ⟨h.os, h.tape, h.output, by have := h.size; simpa [World.setCell] using this, fun k hk hn => (Below.heap_setCell _ _ _ _ (fun e => by subst e; rcases hp with hp | hp; exact hn hp; omega)).trans (h.block k hk hn)⟩
theorem Off.grown {fp : List Nat} {a w w' : World} {row : Option Nat} (h : Off fp a w) (hg : w.grownBy w' row) (hr : ∀ k, row = some k → k ∈ fp ∨ a.heap.size ≤ k) : Off fp a w' :=
  ⟨hg.os.trans h.os, hg.tape.trans h.tape, hg.output.trans h.output, Nat.le_trans h.size hg.size, fun k hk hn =>
    (hg.block k (Nat.lt_of_lt_of_le hk h.size) (fun e => by rcases hr k e.symm with h1 | h1; exact hn h1; omega)).trans (h.block k hk hn)⟩
theorem heap_set_same {w : World} {g o : Nat} {C : Array Value} {t : TypeId} (u : Value) (h : w.heap[g]? = some (.cells C t (0, 0))) : (w.setCell ⟨g, o, none⟩ u).heap[g]? = some (.cells (C.setIfInBounds o u) t (0, 0)) := by
  simp [World.setCell, Array.getElem?_modify, h]
theorem frozen_row {w : World} {g o : Nat} {C : Array Value} {t : TypeId} (h : w.heap[g]? = some (.cells C t (0, 0))) : w.frozen? ⟨g, o, none⟩ = false := by simp [World.frozen?, h]
theorem lt_of_heap {w : World} {g : Nat} {o : Obj} (h : w.heap[g]? = some o) : g < w.heap.size := (Array.getElem?_eq_some_iff.1 h).1
theorem owns_ne {w : World} {base : Nat} {e t : TypeId} {size : Nat} {v : Value} {n q : Nat} {xs : List Value} {C : Array Value} {fr : Nat × Nat} (h : w.ownsRow base e size v n xs) (hq : w.heap[q]? = some (.cells C t fr)) (ht : t ≠ e) : v.ownBlock ≠ some q := by
  rcases h.2 with ⟨rfl, rfl⟩ | ⟨g, cap, cur, rfl, _, hg, h1, h2, h3, h4⟩
  · simp [Value.ownBlock]
  · intro hk
    have : g = q := by simpa [Value.ownBlock] using hk
    subst this
    rw [hg] at hq
    simp at hq
    exact ht hq.2.1.symm
theorem owns_stay {w w' : World} {base : Nat} {e : TypeId} {size : Nat} {v : Value} {n : Nat} {xs : List Value} (h : w.ownsRow base e size v n xs) (hb : ∀ k, v.ownBlock = some k → w'.heap[k]? = w.heap[k]?) : w'.ownsRow base e size v n xs := by
  refine ⟨h.1, ?_⟩
  rcases h.2 with h0 | ⟨g, cap, cur, rfl, h0, hg, h1⟩
  · exact .inl h0
  · exact .inr ⟨g, cap, cur, rfl, h0, (hb g rfl).trans hg, h1⟩
theorem owns_off {fp : List Nat} {w w' : World} {base : Nat} {e : TypeId} {size : Nat} {v : Value} {n : Nat} {xs : List Value} (h : w.ownsRow base e size v n xs) (ho : Off fp w w') (hn : ∀ k ∈ fp, v.ownBlock ≠ some k) : w'.ownsRow base e size v n xs :=
  owns_stay h fun k hk => ho.block k (h.lt k hk).2 (fun hm => hn k hm hk)
theorem owns_below {B : Nat} {w w' : World} {base : Nat} {e : TypeId} {size : Nat} {v : Value} {n : Nat} {xs : List Value} (h : w.ownsRow base e size v n xs) (hb : Below B w w') (hB : w.heap.size ≤ B) : w'.ownsRow base e size v n xs :=
  owns_stay h fun k hk => hb.block k (Nat.lt_of_lt_of_le (h.lt k hk).2 hB)
theorem owns_mono {w : World} {base base' : Nat} {e : TypeId} {size : Nat} {v : Value} {n : Nat} {xs : List Value} (h : w.ownsRow base e size v n xs) (hb : base' ≤ base) : w.ownsRow base' e size v n xs := by
  refine ⟨h.1, ?_⟩
  rcases h.2 with h0 | ⟨g, cap, cur, rfl, h0, hg⟩
  · exact .inl h0
  · exact .inr ⟨g, cap, cur, rfl, Nat.le_trans hb h0, hg⟩
theorem owns_len {w : World} {base : Nat} {e : TypeId} {size : Nat} {v : Value} {n : Nat} {xs : List Value} (h : w.ownsRow base e size v n xs) : ∃ ao c, v = .slice ao n c := by
  rcases h.2 with ⟨rfl, rfl⟩ | ⟨g, cap, cur, rfl, _⟩
  · exact ⟨_, _, rfl⟩
  · exact ⟨_, _, rfl⟩

/-! ### An append -/
theorem run_append_nothing {P : Program} (w : World) (t ty e : TypeId) (i : TypeInfo) (ht : P.underlying t = some (.slice e)) (hi : P.info? e = some i) (x : Value) (hs : Src P i.size t x 0 [] w) :
    (Builtin.append_ #[t, t] ty #[.slice none 0 0, x]).run P w = .ok (.slice none 0 0) w := by
  simp [Builtin.append_, run_underlying ht, sizeOf, typeInfo, hi, hs.len, hs.cells]
theorem setCells_nil (w : World) (b o : Nat) : w.setCells b o [] = w := rfl
theorem run_append_row {P : Program} (w : World) (base : Nat) (t ty e : TypeId) (z : Value) (size bytes : Nat) (ht : P.underlying t = some (.slice e)) (hinfo : (P.info? e).map (fun i => (i.zero, i.size, i.bytes)) = some (some z, size, bytes))
    (hzs : z.cells.size = size) (hsz : 0 < size) (v : Value) (n : Nat) (xs : List Value) (hown : w.ownsRow base e size v n xs)
    (x : Value) (m : Nat) (news : List Value) (hx : Row w x m news) (hl : news.length = m * size) (h1 : ∀ u ∈ news, u.oneCell' = true)
    (hbytes : (n + m) * bytes ≤ 140737488355328) (h63 : n + m ≤ 140737488355328) (hbase : base ≤ w.heap.size) :
    ∃ v' w', (Builtin.append_ #[t, t] ty #[v, x]).run P w = .ok v' w' ∧ w'.ownsRow base e size v' (n + m) (xs ++ news) ∧ w.grownBy w' v.ownBlock := by
  obtain ⟨i, hi, hz⟩ := Option.map_eq_some_iff.1 hinfo
  simp only [Prod.mk.injEq] at hz
  obtain ⟨hz, hsize, hby⟩ := hz
  have hmax : n + m ≤ maxLen := by simp only [maxLen]; omega
  obtain ⟨ao, c, rfl, c1, c2, hr⟩ := hx
  cases ao with
  | some a =>
    obtain ⟨v', w', h1, h2, h3, _⟩ := run_append_own (P := P) w base t ty e i z size bytes ht hi hz hsize hby hzs hsz v n xs hown a m c news hl (fun j u hu => by
      obtain ⟨g, o, e, hrg⟩ := hr (fun h0 => by rw [h0] at hu; simp at hu)
      injection e with e
      subst e
      rw [Addr.add_mid]
      exact hrg j u hu) h1 hmax hbytes hbase
    exact ⟨v', w', h1, h2, h3⟩
  | none =>
    have hn : news = [] := by
      refine Classical.byContradiction fun hne => ?_
      obtain ⟨g, o, e, _⟩ := hr hne
      cases e
    subst hn
    have hm : m = 0 := by
      rcases Nat.eq_zero_or_pos m with h | h
      · exact h
      · have := Nat.mul_pos h hsz
        simp at hl
        omega
    subst hm
    have hsrc : Src P i.size t (.slice none 0 c) 0 [] w := Src.ofNil w ht c
    have same : w.grownBy w v.ownBlock := ⟨rfl, rfl, rfl, Nat.le_refl _, fun _ _ _ => rfl⟩
    rcases hown.2 with ⟨rfl, rfl⟩ | ⟨g, cap, cur, rfl, h0, hg, g1, g2, g3, g4⟩
    · exact ⟨_, w, run_append_nothing w t ty e i ht hi _ hsrc, by simpa using hown, same⟩
    · refine ⟨_, _, run_append_room_src (P := P) w t t ty e i ht hi g 0 n cap _ 0 [] hsrc (by omega) (fun j hj => by simp at hj) (fun j hj => by simp at hj), ?_, same⟩
      simpa [setCells_nil] using hown
/-- .. at a plain region's list. -/
theorem wpList_append_row {P : Program} {ops : Array Oper} {rest : List Oper} {o : Oper} {a : Act} {w : World} {Q : Exit → Act → World → Prop}
    (hg : o.guard = none) (s x : Operand) (t : TypeId) (hop : o.op = Op.call { callee := Callee.builtin Builtin.append, args := #[s, x], argTypes := #[t, t] })
    (base : Nat) (e : TypeId) (z : Value) (size bytes : Nat) (ht : P.underlying t = some (.slice e)) (hi : (P.info? e).map (fun i => (i.zero, i.size, i.bytes)) = some (some z, size, bytes)) (hzs : z.cells.size = size) (hsz : 0 < size)
    (v : Value) (n : Nat) (xs : List Value) (y : Value) (m : Nat) (news : List Value) (hs : a.eval s = v) (hy : a.eval x = y) (hown : w.ownsRow base e size v n xs)
    (hx : Row w y m news) (hl : news.length = m * size) (h1 : ∀ u ∈ news, u.oneCell' = true)
    (hbytes : (n + m) * bytes ≤ 140737488355328) (h63 : n + m ≤ 140737488355328) (hbase : base ≤ w.heap.size)
    (hK : ∀ v' w', w'.ownsRow base e size v' (n + m) (xs ++ news) → w.grownBy w' v.ownBlock → wpList P ops Q rest (a.put o.dst v') w') :
    wpList P ops Q (o :: rest) a w := by
  refine wpList_plain hg fun K hK' => ?_
  obtain ⟨v', w', hrun, r1, r2⟩ := run_append_row (P := P) w base t o.type e z size bytes ht hi hzs hsz v n xs hown y m news hx hl h1 hbytes h63 hbase
  unfold Oper.wp
  simp [execOp, hop, resolve, invoke, builtin, hs, hy, hrun, Result.andThen]
  exact hK' _ _ (hK v' w' r1 r2)

theorem Try.info3 : (Try.prog.info? 3).map (fun i => (i.zero, i.size, i.bytes)) = some (some (.int .i64 0), 1, 8) := by kernel_rfl
theorem Try.info5 : (Try.prog.info? 5).map (fun i => (i.zero, i.size, i.bytes)) = some (some (.int .u8 0), 1, 1) := by kernel_rfl
/-! ### Bytes as a string -/
def strOf (bs : List UInt8) : ByteArray := ⟨bs.toArray⟩
theorem foldl_push : ∀ (bs : List UInt8) (s : ByteArray), (bs.map fun b => (b.toNat : Int)).foldl (fun r n => r.push (UInt8.ofNat n.toNat)) s = ⟨s.data ++ bs.toArray⟩
  | [], s => by simp
  | b :: r, s => by
    rw [List.map_cons, List.foldl_cons, foldl_push r]
    simp [ByteArray.push]
theorem strOf_inj {a b : List UInt8} (h : strOf a = strOf b) : a = b := by
  have := congrArg (fun s => s.data.toList) h
  simpa [strOf] using this

end Go.Proofs.Ytffjdjbjkjefoaa
