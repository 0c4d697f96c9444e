/- A part of it: EMem ENum. -/
import Derived.Test.YteeembildppgmaaGreatM13
import Derived.WalkSpells
import Derived.WalkLawsBesides
import Derived.Deep.MidRow
import Derived.Deep.OwnRows
import Derived.Deep.AppendSrc
import Derived.ArgAppend
import Derived.Below
import Derived.Laws.BytesString
namespace Go.Proofs.YteeembildppgmaaGreat.Enc
open Go.RowKit
set_option linter.unusedVariables false
set_option linter.unusedSimpArgs false
def bcell (b : UInt8) : Value := .int .u8 (b.toNat : Int)
def icell (x : Int) : Value := .int .i64 x
def secCells (s : List UInt8) : List Value := s.map bcell
def intCells (l : List Int) : List Value := l.map icell
def txCells (l : List (Int × Int × Int)) : List Value := l.flatMap fun t => [icell t.1, icell t.2.1, icell t.2.2]
def dtCells (l : List (Int × Int)) : List Value := l.flatMap fun t => [icell t.1, icell t.2]
theorem length_secCells (s : List UInt8) : (secCells s).length = s.length := by simp [secCells]
theorem length_txCells : ∀ l, (txCells l).length = l.length * 3
 | [] => rfl
 | x :: r => by have := length_txCells r; simp only [txCells, List.flatMap_cons, List.length_append, List.length_cons, List.length_nil] at this ⊢; omega
theorem length_dtCells : ∀ l, (dtCells l).length = l.length * 2
 | [] => rfl
 | x :: r => by have := length_dtCells r; simp only [dtCells, List.flatMap_cons, List.length_append, List.length_cons, List.length_nil] at this ⊢; omega
theorem one_secCells (s : List UInt8) : ∀ v ∈ secCells s, v.oneCell' = true := by
 intro v hv
 obtain ⟨b, _, rfl⟩ := List.mem_map.1 hv
 rfl
theorem secCells_append (a b : List UInt8) : secCells (a ++ b) = secCells a ++ secCells b := by simp [secCells]
theorem secCells_get (bs : List UInt8) (k : Nat) (h : k < bs.length) : (secCells bs)[k]? = some (.int .u8 (bs[k].toNat : Int)) := by simp [secCells, bcell, h]

theorem cell_row {w : World} {b o : Nat} {C : Array Value} {t : TypeId} {fr : Nat × Nat} (h : w.heap[b]? = some (.cells C t fr)) : w.cell? ⟨b, o, none⟩ = C[o]? := by simp [World.cell?, h]

def Row (w : World) (v : Value) (n : Nat) (xs : List Value) : Prop :=
 ∃ ao c, v = .slice ao n c ∧ n ≤ c ∧ c ≤ maxLen ∧ (xs ≠ [] → ∃ g o, ao = some ⟨g, o, none⟩ ∧ w.rangeAt g o xs)
theorem Row.nil (w : World) : Row w (.slice none 0 0) 0 [] := ⟨none, 0, rfl, Nat.le_refl _, Nat.zero_le _, fun h => absurd rfl h⟩
theorem rangeAt_below {B : Nat} {w w' : World} {g o : Nat} {xs : List Value} (h : w.rangeAt g o xs) (hb : Below B w w') (hB : w.heap.size ≤ B) : w'.rangeAt g o xs := fun j u hu => by
 have h1 := h j u hu
 exact (hb.cell (p := ⟨g, o + j, none⟩) (Nat.lt_of_lt_of_le (World.block_lt_of_cell? w _ h1) hB)).trans h1
theorem Row.below {B : Nat} {w w' : World} {v : Value} {n : Nat} {xs : List Value} (h : Row w v n xs) (hb : Below B w w') (hB : w.heap.size ≤ B) : Row w' v n xs := by
 obtain ⟨ao, c, rfl, h1, h2, h3⟩ := h
 exact ⟨ao, c, rfl, h1, h2, fun hx => let ⟨g, o, e, hr⟩ := h3 hx; ⟨g, o, e, rangeAt_below hr hb hB⟩⟩
theorem Row.belowW {w w' : World} {v : Value} {n : Nat} {xs : List Value} (h : Row w v n xs) (hb : Below w.heap.size w w') : Row w' v n xs := h.below hb (Nat.le_refl _)
theorem Row.of_owns {w : World} {base : Nat} {e : TypeId} {size : Nat} {v : Value} {n : Nat} {xs : List Value} (h : w.ownsRow base e size v n xs) : Row w v n xs := by
 rcases h.2 with ⟨rfl, rfl⟩ | ⟨g, cap, cur, rfl, _, hg, h1, h2, h3, h4⟩
 · have : xs = [] := List.eq_nil_of_length_eq_zero (by simpa using h.1)
   subst this
   exact Row.nil w
 · refine ⟨_, _, rfl, h1, h2, fun _ => ⟨g, 0, rfl, fun j u hu => ?_⟩⟩
   rw [Nat.zero_add, cell_row hg]
   rw [← h4] at hu
   have hj := (List.getElem?_eq_some_iff.1 hu).1
   rw [List.length_take] at hj
   rw [List.getElem?_take_of_lt (by omega)] at hu
   simpa using hu

structure Off (fp : List Nat) (w w' : World) : Prop where
 os : w'.os = w.os
 tape : w'.tape = w.tape
 output : w'.output = w.output
 size : w.heap.size ≤ w'.heap.size
 block : ∀ k, k < w.heap.size → k ∉ fp → w'.heap[k]? = w.heap[k]?
theorem Off.refl (fp : List Nat) (w : World) : Off fp w w := ⟨rfl, rfl, rfl, Nat.le_refl _, fun _ _ _ => rfl⟩
theorem Off.trans {fp fp' : List Nat} {a b c : World} (h : Off fp a b) (k : Off fp' b c) (hfp : ∀ i ∈ fp', i ∈ fp ∨ a.heap.size ≤ i) : Off fp a c :=
 ⟨k.os.trans h.os, k.tape.trans h.tape, k.output.trans h.output, Nat.le_trans h.size k.size, fun i hi hn =>
  (k.block i (Nat.lt_of_lt_of_le hi h.size) (fun hm => by rcases hfp i hm with h1 | h1; exact hn h1; omega)).trans (h.block i hi hn)⟩
theorem Off.mono {fp fp' : List Nat} {a b : World} (h : Off fp a b) (hs : ∀ i ∈ fp, i ∈ fp') : Off fp' a b :=
 ⟨h.os, h.tape, h.output, h.size, fun k hk hn => h.block k hk (fun hm => hn (hs k hm))⟩
theorem Off.below {fp : List Nat} {a b : World} (h : Off fp a b) {B : Nat} (hB : B ≤ a.heap.size) (hf : ∀ k ∈ fp, B ≤ k) : Below B a b :=
 ⟨h.os, h.tape, h.output, h.size, fun k hk => h.block k (by omega) (fun hm => by have := hf k hm; omega)⟩
theorem Off.of_below {a b : World} (h : Below a.heap.size a b) (fp : List Nat) : Off fp a b :=
 ⟨h.os, h.tape, h.output, h.size, fun k hk _ => h.block k hk⟩
theorem Off.alloc {fp : List Nat} {a w : World} (h : Off fp a w) (o : Obj) : Off fp a (w.alloc o) :=
 ⟨h.os, h.tape, h.output, by have := h.size; simp; omega, fun k hk hn => (Below.heap_alloc _ _ _ (Nat.lt_of_lt_of_le hk h.size)).trans (h.block k hk hn)⟩
theorem Off.drew {fp : List Nat} {a w : World} (h : Off fp a w) : Off fp a w.drew := ⟨h.os, h.tape, h.output, h.size, h.block⟩
theorem Off.drewN {fp : List Nat} {a w : World} (h : Off fp a w) (m : Nat) : Off fp a (w.drewN m) := ⟨h.os, h.tape, h.output, h.size, h.block⟩
theorem Off.setCell {fp : List Nat} {a w : World} (h : Off fp a w) (p : Addr) (u : Value) (hp : p.block ∈ fp ∨ a.heap.size ≤ p.block) : Off fp a (w.setCell p u) :=
 ⟨h.os, h.tape, h.output, by have := h.size; simpa [World.setCell] using this, fun k hk hn => (Below.heap_setCell _ _ _ _ (fun e => by subst e; rcases hp with hp | hp; exact hn hp; omega)).trans (h.block k hk hn)⟩
theorem Off.grown {fp : List Nat} {a w w' : World} {row : Option Nat} (h : Off fp a w) (hg : w.grownBy w' row) (hr : ∀ k, row = some k → k ∈ fp ∨ a.heap.size ≤ k) : Off fp a w' :=
 ⟨hg.os.trans h.os, hg.tape.trans h.tape, hg.output.trans h.output, Nat.le_trans h.size hg.size, fun k hk hn =>
  (hg.block k (Nat.lt_of_lt_of_le hk h.size) (fun e => by rcases hr k e.symm with h1 | h1; exact hn h1; omega)).trans (h.block k hk hn)⟩
theorem heap_set_same {w : World} {g o : Nat} {C : Array Value} {t : TypeId} (u : Value) (h : w.heap[g]? = some (.cells C t (0, 0))) : (w.setCell ⟨g, o, none⟩ u).heap[g]? = some (.cells (C.setIfInBounds o u) t (0, 0)) := by
 simp [World.setCell, Array.getElem?_modify, h]
theorem frozen_row {w : World} {g o : Nat} {C : Array Value} {t : TypeId} (h : w.heap[g]? = some (.cells C t (0, 0))) : w.frozen? ⟨g, o, none⟩ = false := by simp [World.frozen?, h]
theorem lt_of_heap {w : World} {g : Nat} {o : Obj} (h : w.heap[g]? = some o) : g < w.heap.size := (Array.getElem?_eq_some_iff.1 h).1
theorem owns_ne {w : World} {base : Nat} {e t : TypeId} {size : Nat} {v : Value} {n q : Nat} {xs : List Value} {C : Array Value} {fr : Nat × Nat} (h : w.ownsRow base e size v n xs) (hq : w.heap[q]? = some (.cells C t fr)) (ht : t ≠ e) : v.ownBlock ≠ some q := by
 rcases h.2 with ⟨rfl, rfl⟩ | ⟨g, cap, cur, rfl, _, hg, h1, h2, h3, h4⟩
 · simp [Value.ownBlock]
 · intro hk
   have : g = q := by simpa [Value.ownBlock] using hk
   subst this
   rw [hg] at hq
   simp at hq
   exact ht hq.2.1.symm
theorem owns_stay {w w' : World} {base : Nat} {e : TypeId} {size : Nat} {v : Value} {n : Nat} {xs : List Value} (h : w.ownsRow base e size v n xs) (hb : ∀ k, v.ownBlock = some k → w'.heap[k]? = w.heap[k]?) : w'.ownsRow base e size v n xs := by
 refine ⟨h.1, ?_⟩
 rcases h.2 with h0 | ⟨g, cap, cur, rfl, h0, hg, h1⟩
 · exact .inl h0
 · exact .inr ⟨g, cap, cur, rfl, h0, (hb g rfl).trans hg, h1⟩
theorem owns_off {fp : List Nat} {w w' : World} {base : Nat} {e : TypeId} {size : Nat} {v : Value} {n : Nat} {xs : List Value} (h : w.ownsRow base e size v n xs) (ho : Off fp w w') (hn : ∀ k ∈ fp, v.ownBlock ≠ some k) : w'.ownsRow base e size v n xs :=
 owns_stay h fun k hk => ho.block k (h.lt k hk).2 (fun hm => hn k hm hk)
theorem owns_below {B : Nat} {w w' : World} {base : Nat} {e : TypeId} {size : Nat} {v : Value} {n : Nat} {xs : List Value} (h : w.ownsRow base e size v n xs) (hb : Below B w w') (hB : w.heap.size ≤ B) : w'.ownsRow base e size v n xs :=
 owns_stay h fun k hk => hb.block k (Nat.lt_of_lt_of_le (h.lt k hk).2 hB)
theorem owns_mono {w : World} {base base' : Nat} {e : TypeId} {size : Nat} {v : Value} {n : Nat} {xs : List Value} (h : w.ownsRow base e size v n xs) (hb : base' ≤ base) : w.ownsRow base' e size v n xs := by
 refine ⟨h.1, ?_⟩
 rcases h.2 with h0 | ⟨g, cap, cur, rfl, h0, hg⟩
 · exact .inl h0
 · exact .inr ⟨g, cap, cur, rfl, Nat.le_trans hb h0, hg⟩
theorem owns_len {w : World} {base : Nat} {e : TypeId} {size : Nat} {v : Value} {n : Nat} {xs : List Value} (h : w.ownsRow base e size v n xs) : ∃ ao c, v = .slice ao n c := by
 rcases h.2 with ⟨rfl, rfl⟩ | ⟨g, cap, cur, rfl, _⟩
 · exact ⟨_, _, rfl⟩
 · exact ⟨_, _, rfl⟩

theorem run_append_nothing {P : Program} (w : World) (t ty e : TypeId) (i : TypeInfo) (ht : P.underlying t = some (.slice e)) (hi : P.info? e = some i) (x : Value) (hs : Src P i.size t x 0 [] w) :
 (Builtin.append_ #[t, t] ty #[.slice none 0 0, x]).run P w = .ok (.slice none 0 0) w := by
 simp [Builtin.append_, run_underlying ht, sizeOf, typeInfo, hi, hs.len, hs.cells]
theorem setCells_nil (w : World) (b o : Nat) : w.setCells b o [] = w := rfl
theorem run_append_row {P : Program} (w : World) (base : Nat) (t ty e : TypeId) (z : Value) (size bytes : Nat) (ht : P.underlying t = some (.slice e)) (hinfo : (P.info? e).map (fun i => (i.zero, i.size, i.bytes)) = some (some z, size, bytes))
 (hzs : z.cells.size = size) (hsz : 0 < size) (v : Value) (n : Nat) (xs : List Value) (hown : w.ownsRow base e size v n xs)
 (x : Value) (m : Nat) (news : List Value) (hx : Row w x m news) (hl : news.length = m * size) (h1 : ∀ u ∈ news, u.oneCell' = true)
 (hbytes : (n + m) * bytes ≤ 140737488355328) (h63 : n + m ≤ 140737488355328) (hbase : base ≤ w.heap.size) :
 ∃ v' w', (Builtin.append_ #[t, t] ty #[v, x]).run P w = .ok v' w' ∧ w'.ownsRow base e size v' (n + m) (xs ++ news) ∧ w.grownBy w' v.ownBlock := by
 obtain ⟨i, hi, hz⟩ := Option.map_eq_some_iff.1 hinfo
 simp only [Prod.mk.injEq] at hz
 obtain ⟨hz, hsize, hby⟩ := hz
 have hmax : n + m ≤ maxLen := by simp only [maxLen]; omega
 obtain ⟨ao, c, rfl, c1, c2, hr⟩ := hx
 cases ao with
 | some a =>
   obtain ⟨v', w', h1, h2, h3, _⟩ := run_append_own (P := P) w base t ty e i z size bytes ht hi hz hsize hby hzs hsz v n xs hown a m c news hl (fun j u hu => by
    obtain ⟨g, o, e, hrg⟩ := hr (fun h0 => by rw [h0] at hu; simp at hu)
    injection e with e
    subst e
    rw [Addr.add_mid]
    exact hrg j u hu) h1 hmax hbytes hbase
   exact ⟨v', w', h1, h2, h3⟩
 | none =>
   have hn : news = [] := by
    refine Classical.byContradiction fun hne => ?_
    obtain ⟨g, o, e, _⟩ := hr hne
    cases e
   subst hn
   have hm : m = 0 := by
    rcases Nat.eq_zero_or_pos m with h | h
    · exact h
    · have := Nat.mul_pos h hsz
      simp at hl
      omega
   subst hm
   have hsrc : Src P i.size t (.slice none 0 c) 0 [] w := Src.ofNil w ht c
   have same : w.grownBy w v.ownBlock := ⟨rfl, rfl, rfl, Nat.le_refl _, fun _ _ _ => rfl⟩
   rcases hown.2 with ⟨rfl, rfl⟩ | ⟨g, cap, cur, rfl, h0, hg, g1, g2, g3, g4⟩
   · exact ⟨_, w, run_append_nothing w t ty e i ht hi _ hsrc, by simpa using hown, same⟩
   · refine ⟨_, _, run_append_room_src (P := P) w t t ty e i ht hi g 0 n cap _ 0 [] hsrc (by omega) (fun j hj => by simp at hj) (fun j hj => by simp at hj), ?_, same⟩
     simpa [setCells_nil] using hown
theorem wpList_append_row {P : Program} {ops : Array Oper} {rest : List Oper} {o : Oper} {a : Act} {w : World} {Q : Exit → Act → World → Prop}
 (hg : o.guard = none) (s x : Operand) (t : TypeId) (hop : o.op = Op.call { callee := Callee.builtin Builtin.append, args := #[s, x], argTypes := #[t, t] })
 (base : Nat) (e : TypeId) (z : Value) (size bytes : Nat) (ht : P.underlying t = some (.slice e)) (hi : (P.info? e).map (fun i => (i.zero, i.size, i.bytes)) = some (some z, size, bytes)) (hzs : z.cells.size = size) (hsz : 0 < size)
 (v : Value) (n : Nat) (xs : List Value) (y : Value) (m : Nat) (news : List Value) (hs : a.eval s = v) (hy : a.eval x = y) (hown : w.ownsRow base e size v n xs)
 (hx : Row w y m news) (hl : news.length = m * size) (h1 : ∀ u ∈ news, u.oneCell' = true)
 (hbytes : (n + m) * bytes ≤ 140737488355328) (h63 : n + m ≤ 140737488355328) (hbase : base ≤ w.heap.size)
 (hK : ∀ v' w', w'.ownsRow base e size v' (n + m) (xs ++ news) → w.grownBy w' v.ownBlock → wpList P ops Q rest (a.put o.dst v') w') :
 wpList P ops Q (o :: rest) a w := by
 refine wpList_plain hg fun K hK' => ?_
 obtain ⟨v', w', hrun, r1, r2⟩ := run_append_row (P := P) w base t o.type e z size bytes ht hi hzs hsz v n xs hown y m news hx hl h1 hbytes h63 hbase
 unfold Oper.wp
 simp [execOp, hop, resolve, invoke, builtin, hs, hy, hrun, Result.andThen]
 exact hK' _ _ (hK v' w' r1 r2)

theorem Tryz.info5 : (Tryz.prog.info? 5).map (fun i => (i.zero, i.size, i.bytes)) = some (some (.int .u8 0), 1, 1) := by kernel_rfl
theorem Tryz.info5' : ∃ i, Tryz.prog.info? 5 = some i ∧ i.zero = some (.int .u8 0) ∧ i.size = 1 ∧ i.bytes = 1 := by
 obtain ⟨i, hi, hz⟩ := Option.map_eq_some_iff.1 Tryz.info5
 simp only [Prod.mk.injEq] at hz
 exact ⟨i, hi, hz.1, hz.2.1, hz.2.2⟩
def cutAt (ao : Option Addr) (c l : Nat) : Option Addr := if c = l then ao else ao.map (·.add l)
theorem run_cut_from (w : World) (ao : Option Addr) (n c l : Nat) (hl : l ≤ n) :
 (Instr.sliceAt 36 (.slice ao n c) (some (.int .i64 (l : Int))) none none).run Tryz.prog w = .ok (.slice (cutAt ao c l) (n - l) (c - l)) w := by
 have hu := Tryz.underlying36
 have h2 : (l : Int) ≤ (n : Int) := by omega
 obtain ⟨i, hi, hz, hsz, hby⟩ := Tryz.info5'
 simp [Instr.sliceAt, Instr.slice, run_underlying hu, Instr.sliceBounds, Instr.sliceBound, asIntOf, h2, sizeOf, typeInfo, hi, hsz, cutAt, Nat.mul_one]
 by_cases e : c = l
 · simp [e]; intro hx; omega
 · simp [e]; intro hx; omega
theorem run_cut_to (w : World) (ao : Option Addr) (n c h : Nat) (hh : h ≤ c) :
 (Instr.sliceAt 36 (.slice ao n c) none (some (.int .i64 (h : Int))) none).run Tryz.prog w = .ok (.slice ao h c) w := by
 have hu := Tryz.underlying36
 have h1 : (h : Int) ≤ (c : Int) := by omega
 obtain ⟨i, hi, hz, hsz, hby⟩ := Tryz.info5'
 simp [Instr.sliceAt, Instr.slice, run_underlying hu, Instr.sliceBounds, Instr.sliceBound, asIntOf, h1, sizeOf, typeInfo, hi, hsz, Nat.mul_one, hh]
 by_cases e : c = 0
 · simp [e]
 · simp [e]
   cases ao with
   | none => rfl
   | some a => obtain ⟨g, o, s⟩ := a; cases s <;> simp [Addr.add]
def Sl (w : World) (v : Value) (bs : List UInt8) : Prop := Row w v bs.length (secCells bs)
theorem Sl.to {w : World} {ao : Option Addr} {n c : Nat} {bs : List UInt8} (h : Sl w (.slice ao n c) bs) (k : Nat) (hk : k ≤ bs.length) : Sl w (.slice ao k c) (bs.take k) := by
 obtain ⟨ao', c', e, h1, h2, h3⟩ := h
 injection e with e1 e2 e3
 subst e1 e2 e3
 have hlen : (bs.take k).length = k := by rw [List.length_take]; omega
 refine ⟨ao, c, by rw [hlen], by omega, h2, fun hx => ?_⟩
 obtain ⟨g, o, ea, hr⟩ := h3 (fun h0 => hx (by
  have : bs = [] := List.map_eq_nil_iff.1 h0
  rw [this]; simp [secCells]))
 refine ⟨g, o, ea, fun j u hu => hr j u ?_⟩
 have he : secCells (bs.take k) = (secCells bs).take k := by simp [secCells]
 rw [he, List.getElem?_take] at hu
 split at hu
 · exact hu
 · simp at hu
theorem Sl.from {w : World} {ao : Option Addr} {n c : Nat} {bs : List UInt8} (h : Sl w (.slice ao n c) bs) (l : Nat) (hl : l ≤ bs.length) : Sl w (.slice (cutAt ao c l) (bs.length - l) (c - l)) (bs.drop l) := by
 obtain ⟨ao', c', e, h1, h2, h3⟩ := h
 injection e with e1 e2 e3
 subst e1 e2 e3
 have hlen : (bs.drop l).length = bs.length - l := by rw [List.length_drop]
 refine ⟨_, c - l, by rw [hlen], by omega, by omega, fun hx => ?_⟩
 have hne : bs.drop l ≠ [] := fun h0 => hx (by rw [h0]; rfl)
 have hlt : l < bs.length := by
  rcases Nat.lt_or_ge l bs.length with h | h
  · exact h
  · exact absurd (List.drop_of_length_le h) hne
 obtain ⟨g, o, ea, hr⟩ := h3 (fun h0 => by
  have : bs = [] := List.map_eq_nil_iff.1 h0
  rw [this] at hlt; simp at hlt)
 subst ea
 refine ⟨g, o + l, by unfold cutAt; rw [if_neg (by omega)]; simp [Addr.add_mid], fun j u hu => ?_⟩
 rw [Nat.add_assoc]
 refine hr (l + j) u ?_
 have : secCells (bs.drop l) = (secCells bs).drop l := by simp [secCells]
 rw [this, List.getElem?_drop] at hu
 exact hu
theorem Sl.len {w : World} {v : Value} {bs : List UInt8} (h : Sl w v bs) : ∃ ao c, v = .slice ao bs.length c ∧ bs.length ≤ c ∧ c ≤ maxLen := let ⟨ao, c, e, h1, h2, _⟩ := h; ⟨ao, c, e, h1, h2⟩
theorem Sl.get {w : World} {ao : Option Addr} {n c : Nat} {bs : List UInt8} (h : Sl w (.slice ao n c) bs) (k : Nat) (hk : k < bs.length) : ∃ g o, ao = some ⟨g, o, none⟩ ∧ w.cell? ⟨g, o + k, none⟩ = some (.int .u8 ((bs.getD k 0).toNat : Int)) := by
 obtain ⟨ao', c', e, h1, h2, h3⟩ := h
 injection e with e1 e2 e3
 subst e1
 obtain ⟨g, o, ea, hr⟩ := h3 (fun h0 => by
  have : bs = [] := List.map_eq_nil_iff.1 h0
  rw [this] at hk; simp at hk)
 refine ⟨g, o, ea, hr k _ ?_⟩
 rw [secCells_get bs k hk]
 simp [hk]
theorem Sl.nil (w : World) : Sl w (.slice none 0 0) [] := Row.nil w
def strOf (bs : List UInt8) : ByteArray := ⟨bs.toArray⟩
theorem foldl_push : ∀ (bs : List UInt8) (s : ByteArray), (bs.map fun b => (b.toNat : Int)).foldl (fun r n => r.push (UInt8.ofNat n.toNat)) s = ⟨s.data ++ bs.toArray⟩
 | [], s => by simp
 | b :: r, s => by
   rw [List.map_cons, List.foldl_cons, foldl_push r]
   simp [ByteArray.push]
end Go.Proofs.YteeembildppgmaaGreat.Enc
namespace Go.Proofs.YteeembildppgmaaGreat.Enc
open Go.RowKit
set_option linter.unusedVariables false
set_option linter.unusedSimpArgs false
theorem or_low (v c : Nat) (hc : c < 256) : (v * 256) ||| c = v * 256 + c := by
 have h := Nat.shiftLeft_add_eq_or_of_lt (i := 8) (by simpa using hc) v
 rw [Nat.shiftLeft_eq] at h
 exact h.symm
theorem wrapU (x : Int) : IntKind.u64.wrap x = x % 18446744073709551616 := rfl
theorem or_u64 (v c : Nat) (hv : v < 72057594037927936) (hc : c < 256) : bits .or .u64 (IntKind.u64.wrap ((v : Int) * 256)) (IntKind.u64.wrap (c : Int)) = ((v * 256 + c : Nat) : Int) := by
 have h1 : IntKind.u64.wrap ((v : Int) * 256) = ((v * 256 : Nat) : Int) := by rw [wrapU]; omega
 have h2 : IntKind.u64.wrap (c : Int) = (c : Int) := by rw [wrapU]; omega
 rw [h1, h2]
 have : bits .or .u64 ((v * 256 : Nat) : Int) (c : Int) = IntKind.u64.wrap (((BitVec.ofInt 64 ((v * 256 : Nat) : Int)).toNat ||| (BitVec.ofInt 64 (c : Int)).toNat : Nat) : Int) := by
  simp only [bits, BitVec.toNat_or]
  rfl
 rw [this]
 have e1 : (BitVec.ofInt 64 ((v * 256 : Nat) : Int)).toNat = v * 256 := by simp; omega
 have e2 : (BitVec.ofInt 64 (c : Int)).toNat = c := by simp; omega
 rw [e1, e2, or_low v c hc, wrapU]
 omega
theorem beval_take_lt (bs : List UInt8) (k : Nat) (hk : k ≤ 7) : beval (bs.take k) < 72057594037927936 := by
 have h1 := beval_lt (bs.take k)
 have h2 : (bs.take k).length ≤ k := List.length_take_le _ _
 exact Nat.lt_of_lt_of_le h1 (Nat.le_trans (Nat.pow_le_pow_right (by omega) (by omega : (bs.take k).length ≤ 7)) (by decide))

set_option maxHeartbeats 400000 in
theorem number_ok {w0 w : World} {f : Nat} {v : Value} {rest r' : List UInt8} {n : Int} (hB : Below w0.heap.size w0 w) (hf : w0.heap.size ≤ f) (hR : w.heap[f]? = some (.cells #[v] 179 (0, 0))) (hv : Sl w0 v rest) (hn : getNum rest = some (n, r')) :
 Calls Tryz.prog 150 #[.pointer (some ⟨f, 0, none⟩)] w fun e w' => ∃ v', e = .returned (.tuple #[.int .i64 n, .bool true]) ∧ w' = w.setCell ⟨f, 0, none⟩ v' ∧ Sl w0 v' r' := by
 unfold getNum at hn
 by_cases h8 : rest.length < 8
 · rw [if_pos h8] at hn; cases hn
 rw [if_neg h8] at hn
 by_cases hm : 4611686018427387904 < beval (rest.take 8)
 · rw [if_pos hm] at hn; cases hn
 rw [if_neg hm] at hn
 simp only [Option.some.injEq, Prod.mk.injEq] at hn
 obtain ⟨rfl, rfl⟩ := hn
 obtain ⟨ao, c, rfl, hc1, hc2⟩ := hv.len
 obtain ⟨g, o, rfl, hz⟩ := hv.get 0 (by omega)
 clear hz
 have hget : ∀ k (hk : k < 8), w.cell? ⟨g, o + k, none⟩ = some (.int .u8 ((rest.getD k 0).toNat : Int)) := fun k hk => by
  obtain ⟨g', o', e, hc⟩ := hv.get k (by omega)
  injection e with e
  injection e with e1 e2
  subst e1 e2
  exact (hB.cell (p := ⟨g, o + k, none⟩) (World.block_lt_of_cell? w0 _ hc)).trans hc
 have HG := hide hget
 have HS := hide (hv.from 8 (by omega))
 have HT : Hid (∀ k, k < 8 → beval (rest.take (k + 1)) = beval (rest.take k) * 256 + (rest[k]?.getD 0).toNat) := fun k hk => by
  rw [List.take_succ_eq_append_getElem (by omega), beval_snoc, List.getElem?_eq_getElem (by omega)]
  rfl
 have k0 : w.cell? ⟨f, 0, none⟩ = some (.slice (some ⟨g, o, none⟩) rest.length c) := by rw [cell_row hR]; rfl
 have f0 : w.frozen? ⟨f, 0, none⟩ = false := frozen_row hR
 have hcut1 : ∀ u, (Instr.sliceAt 36 (.slice (some ⟨g, o, none⟩) rest.length c) none (some (.int .i64 8)) none).run Tryz.prog u = .ok (.slice (some ⟨g, o, none⟩) 8 c) u := fun u => run_cut_to u (some ⟨g, o, none⟩) rest.length c 8 (by omega)
 have hcut2 : ∀ u, (Instr.sliceAt 36 (.slice (some ⟨g, o, none⟩) rest.length c) (some (.int .i64 8)) none none).run Tryz.prog u = .ok (.slice (cutAt (some ⟨g, o, none⟩) c 8) (rest.length - 8) (c - 8)) u := fun u => run_cut_from u (some ⟨g, o, none⟩) rest.length c 8 (by omega)
 simp only [maxLen] at hc2
 have hl8 : (8 : Int) ≤ (rest.length : Int) := by omega
 have hgr : ((beval (rest.take 8) : Nat) : Int) ≤ 4611686018427387904 := by omega
 clear hget hv hR hB h8 hm
 generalize rest.length = L at *
 go_enter Tryz.func150, Tryz.ntmps150
 go_wp2
 go_loop [19, 4] (fun i v => ∃ k : Nat, k ≤ 8 ∧ i = .int .i64 k ∧ v = .int .u64 (beval (rest.take k) : Nat)) (fun i _ => 8 - (intOf i).toNat)
 case atStart => exact ⟨0, by omega, rfl, rfl⟩
 case round =>
  obtain ⟨k, hk, rfl, rfl⟩ := hrel
  by_cases hlt : k < 8
  · have hcell := HG.out k hlt
    go_wp2
    go_round
    case rel =>
     refine ⟨k + 1, by omega, by go_num, ?_⟩
     rw [or_u64 _ _ (beval_take_lt rest k (by omega)) (UInt8.toNat_lt _), HT.out k hlt]
    case measure => simp [intOf]; omega
  · have hk8 : k = 8 := by omega
    subst hk8
    go_wp2
    go_ret2
    exact ⟨rfl, _, rfl, HS.out⟩

set_option maxHeartbeats 400000 in
theorem number_no {w0 w : World} {f : Nat} {v : Value} {rest : List UInt8} (hB : Below w0.heap.size w0 w) (hf : w0.heap.size ≤ f) (hR : w.heap[f]? = some (.cells #[v] 179 (0, 0))) (hv : Sl w0 v rest) (hn : getNum rest = none) :
 Calls Tryz.prog 150 #[.pointer (some ⟨f, 0, none⟩)] w fun e w' => e = .returned (.tuple #[.int .i64 0, .bool false]) ∧ w' = w := by
 unfold getNum at hn
 obtain ⟨ao, c, rfl, hc1, hc2⟩ := hv.len
 have k0 : w.cell? ⟨f, 0, none⟩ = some (.slice ao rest.length c) := by rw [cell_row hR]; rfl
 simp only [maxLen] at hc2
 by_cases h8 : rest.length < 8
 · have hl8 : (rest.length : Int) < 8 := by omega
   clear hn hv hR hB h8
   generalize rest.length = L at *
   go_enter Tryz.func150, Tryz.ntmps150
   go_wp2
   go_ret2
   exact ⟨rfl, rfl⟩
 rw [if_neg h8] at hn
 have hm : 4611686018427387904 < beval (rest.take 8) := by
  refine Classical.byContradiction fun h => ?_
  rw [if_neg h] at hn; cases hn
 obtain ⟨g, o, rfl, hz⟩ := hv.get 0 (by omega)
 clear hz
 have hget : ∀ k (hk : k < 8), w.cell? ⟨g, o + k, none⟩ = some (.int .u8 ((rest.getD k 0).toNat : Int)) := fun k hk => by
  obtain ⟨g', o', e, hc⟩ := hv.get k (by omega)
  injection e with e
  injection e with e1 e2
  subst e1 e2
  exact (hB.cell (p := ⟨g, o + k, none⟩) (World.block_lt_of_cell? w0 _ hc)).trans hc
 have HG := hide hget
 have HT : Hid (∀ k, k < 8 → beval (rest.take (k + 1)) = beval (rest.take k) * 256 + (rest[k]?.getD 0).toNat) := fun k hk => by
  rw [List.take_succ_eq_append_getElem (by omega), beval_snoc, List.getElem?_eq_getElem (by omega)]
  rfl
 have hcut1 : ∀ u, (Instr.sliceAt 36 (.slice (some ⟨g, o, none⟩) rest.length c) none (some (.int .i64 8)) none).run Tryz.prog u = .ok (.slice (some ⟨g, o, none⟩) 8 c) u := fun u => run_cut_to u (some ⟨g, o, none⟩) rest.length c 8 (by omega)
 have hl8 : (8 : Int) ≤ (rest.length : Int) := by omega
 have hgr : 4611686018427387904 < ((beval (rest.take 8) : Nat) : Int) := by omega
 clear hget hv hR hB h8 hm hn
 generalize rest.length = L at *
 go_enter Tryz.func150, Tryz.ntmps150
 go_wp2
 go_loop [19, 4] (fun i v => ∃ k : Nat, k ≤ 8 ∧ i = .int .i64 k ∧ v = .int .u64 (beval (rest.take k) : Nat)) (fun i _ => 8 - (intOf i).toNat)
 case atStart => exact ⟨0, by omega, rfl, rfl⟩
 case round =>
  obtain ⟨k, hk, rfl, rfl⟩ := hrel
  by_cases hlt : k < 8
  · have hcell := HG.out k hlt
    go_wp2
    go_round
    case rel =>
     refine ⟨k + 1, by omega, by go_num, ?_⟩
     rw [or_u64 _ _ (beval_take_lt rest k (by omega)) (UInt8.toNat_lt _), HT.out k hlt]
    case measure => simp [intOf]; omega
  · have hk8 : k = 8 := by omega
    subst hk8
    go_wp2
    go_ret2
    exact ⟨rfl, rfl⟩

set_option maxHeartbeats 400000 in
theorem piece_ok {w0 w : World} {f : Nat} {v : Value} {rest p r' : List UInt8} (hB : Below w0.heap.size w0 w) (hf : w0.heap.size ≤ f) (hR : w.heap[f]? = some (.cells #[v] 179 (0, 0))) (hv : Sl w0 v rest) (hn : getPiece rest = some (p, r')) :
 Calls Tryz.prog 149 #[.pointer (some ⟨f, 0, none⟩)] w fun e w' => ∃ vp v', e = .returned (.tuple #[vp, .bool true]) ∧ Sl w0 vp p ∧ w'.heap[f]? = some (.cells #[v'] 179 (0, 0)) ∧ Sl w0 v' r' ∧ Off [f] w w' := by
 unfold getPiece at hn
 split at hn
 · cases hn
 rename_i n r1 h1
 split at hn
 · cases hn
 rename_i hlt
 simp only [Option.some.injEq, Prod.mk.injEq] at hn
 obtain ⟨rfl, rfl⟩ := hn
 have hbn := getNum_len h1
 obtain ⟨m, rfl⟩ : ∃ m : Nat, n = (m : Int) := ⟨n.toNat, by omega⟩
 rw [Int.toNat_natCast]
 have HC := hide (number_ok hB hf hR hv h1)
 have hml : m ≤ r1.length := by omega
 have HFB := hide hR
 have b1 : (m : Int) ≤ 4611686018427387904 := hbn.2.2.1
 clear h1 hv hbn hlt hR
 go_enter Tryz.func149, Tryz.ntmps149
 go_wp2_with fail
 refine HC.out.mono ?_
 rintro e w1 ⟨v1, rfl, rfl, hs1⟩
 obtain ⟨ao, c, rfl, hc1, hc2⟩ := hs1.len
 have HS1 := hide hs1
 have hR1 := heap_set_same (o := 0) (.slice ao r1.length c) HFB.out
 have k1 : (w.setCell ⟨f, 0, none⟩ (.slice ao r1.length c)).cell? ⟨f, 0, none⟩ = some (.slice ao r1.length c) := by rw [cell_row hR1]; rfl
 have f1 : (w.setCell ⟨f, 0, none⟩ (.slice ao r1.length c)).frozen? ⟨f, 0, none⟩ = false := frozen_row hR1
 have HR1 := hide hR1
 have hO1 : Off [f] w (w.setCell ⟨f, 0, none⟩ (.slice ao r1.length c)) := (Off.refl _ _).setCell _ _ (.inl (by simp))
 have HO1 := hide hO1
 have hcut1 := fun u => run_cut_to u ao r1.length c m (by omega)
 have hcut2 := fun u => run_cut_from u ao r1.length c m hml
 have hlen : (r1.drop m).length = r1.length - m := by rw [List.length_drop]
 have HT := hide (hs1.to m hml)
 have HF := hide (hs1.from m hml)
 have hcmp : (m : Int) ≤ (r1.length : Int) := by omega
 simp only [maxLen] at hc2
 clear hs1 hO1 hR1 hlen
 generalize w.setCell ⟨f, 0, none⟩ (.slice ao r1.length c) = w1 at *
 generalize r1.length = L at *
 go_wp2
 go_ret2
 refine ⟨_, _, rfl, HT.out, ?_, HF.out, HO1.out.setCell _ _ (.inl (by simp))⟩
 exact heap_set_same _ HR1.out
set_option maxHeartbeats 400000 in
theorem piece_no {w0 w : World} {f : Nat} {v : Value} {rest : List UInt8} (hB : Below w0.heap.size w0 w) (hf : w0.heap.size ≤ f) (hR : w.heap[f]? = some (.cells #[v] 179 (0, 0))) (hv : Sl w0 v rest) (hn : getPiece rest = none) :
 Calls Tryz.prog 149 #[.pointer (some ⟨f, 0, none⟩)] w fun e w' => e = .returned (.tuple #[.slice none 0 0, .bool false]) ∧ Off [f] w w' ∧ ∃ v', w'.heap[f]? = some (.cells #[v'] 179 (0, 0)) := by
 unfold getPiece at hn
 split at hn
 · rename_i h1
   have HC := hide (number_no hB hf hR hv h1)
   have HR := hide hR
   clear h1 hv hR hB hn
   go_enter Tryz.func149, Tryz.ntmps149
   go_wp2_with fail
   refine HC.out.mono ?_
   rintro e w1 ⟨rfl, rfl⟩
   go_wp2
   go_ret2
   exact ⟨rfl, Off.refl _ _, _, HR.out⟩
 · rename_i n r1 h1
   split at hn
   · rename_i hlt
     have hbn := getNum_len h1
     obtain ⟨m, rfl⟩ : ∃ m : Nat, n = (m : Int) := ⟨n.toNat, by omega⟩
     have HC := hide (number_ok hB hf hR hv h1)
     have HFB := hide hR
     have b1 : (m : Int) ≤ 4611686018427387904 := hbn.2.2.1
     clear h1 hv hbn hR hn hB
     go_enter Tryz.func149, Tryz.ntmps149
     go_wp2_with fail
     refine HC.out.mono ?_
     rintro e w1 ⟨v1, rfl, rfl, hs1⟩
     obtain ⟨ao, c, rfl, hc1, hc2⟩ := hs1.len
     have hR1 := heap_set_same (o := 0) (.slice ao r1.length c) HFB.out
     have k1 : (w.setCell ⟨f, 0, none⟩ (.slice ao r1.length c)).cell? ⟨f, 0, none⟩ = some (.slice ao r1.length c) := by rw [cell_row hR1]; rfl
     have HR1 := hide hR1
     have hO1 : Off [f] w (w.setCell ⟨f, 0, none⟩ (.slice ao r1.length c)) := (Off.refl _ _).setCell _ _ (.inl (by simp))
     have HO1 := hide hO1
     simp only [maxLen] at hc2
     clear hs1 hO1 hR1
     generalize w.setCell ⟨f, 0, none⟩ (.slice ao r1.length c) = w1 at *
     generalize r1.length = L at *
     go_wp2
     go_ret2
     exact ⟨rfl, HO1.out, _, HR1.out⟩
   · cases hn
end Go.Proofs.YteeembildppgmaaGreat.Enc
