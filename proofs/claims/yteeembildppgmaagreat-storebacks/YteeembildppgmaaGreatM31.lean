/- A part of it: DBase DMapI DLines DSoil DAgain. -/
import Derived.WalkKit
import Derived.WalkSpells
import Derived.WalkLawsBesides
import Derived.Deep.MidRow
import Derived.Deep.OwnRows
import Derived.Laws.CopyOwn
import Derived.Deep.RegionHeld
import Derived.Deep.RegionHeldLaw
import Derived.ArgAppend
import Derived.Deep.QuietTactic
import Derived.BigQuiet
import Derived.WalkMore
import Derived.ScopeJumps
import Derived.Shelf.Abstract
import Derived.Test.YteeembildppgmaaGreatRows
import Derived.Maps.OwnSet
import Derived.Maps.OwnOps
import Derived.Deep.CutBlock
import Derived.Deep.DeepCutAuto
namespace Go.Proofs.YteeembildppgmaaGreat.Rd
open Go.RowKit
set_option linter.unusedVariables false
set_option linter.unusedSimpArgs false
theorem hide {p : Prop} (h : p) : Hid p := h
theorem flat_length {α : Type} (m : Nat) : ∀ X : List (List α), (∀ x ∈ X, x.length = m) → X.flatten.length = X.length * m
 | [], _ => by simp
 | x :: r, h => by
   rw [List.flatten_cons, List.length_append, flat_length m r (fun y hy => h y (by simp [hy])), h x (by simp), List.length_cons, Nat.add_mul]
   omega
theorem flat_get {α : Type} (m : Nat) : ∀ (X : List (List α)) (_ : ∀ x ∈ X, x.length = m) (i : Nat) (hi : i < X.length) (j : Nat) (_ : j < m), X.flatten[i * m + j]? = X[i][j]?
 | [], _, i, hi, _, _ => by simp at hi
 | x :: r, h, 0, _, j, hj => by
   rw [List.flatten_cons, Nat.zero_mul, Nat.zero_add, List.getElem?_append_left (by rw [h x (by simp)]; exact hj)]
   rfl
 | x :: r, h, i + 1, hi, j, hj => by
   have hx : x.length = m := h x (by simp)
   rw [List.flatten_cons, List.getElem?_append_right (by rw [hx, Nat.add_mul]; omega), hx, show (i + 1) * m + j - m = i * m + j by rw [Nat.add_mul]; omega,
    flat_get m r (fun y hy => h y (by simp [hy])) i (by simpa using hi) j hj]
   rfl
theorem flat_take {α : Type} (m : Nat) : ∀ (X : List (List α)) (_ : ∀ x ∈ X, x.length = m) (i : Nat), X.flatten.take (i * m) = (X.take i).flatten
 | [], _, i => by simp
 | x :: r, _, 0 => by simp
 | x :: r, h, i + 1 => by
   have hx : x.length = m := h x (by simp)
   rw [List.flatten_cons, List.take_succ_cons, List.flatten_cons, Nat.add_mul, Nat.one_mul, ← flat_take m r (fun y hy => h y (by simp [hy])) i]
   rw [List.take_append, hx, List.take_of_length_le (by omega)]
   congr 2
   omega
theorem flat_drop {α : Type} (m : Nat) : ∀ (X : List (List α)) (_ : ∀ x ∈ X, x.length = m) (i : Nat), X.flatten.drop (i * m) = (X.drop i).flatten
 | [], _, i => by simp
 | x :: r, _, 0 => by simp
 | x :: r, h, i + 1 => by
   have hx : x.length = m := h x (by simp)
   rw [List.flatten_cons, List.drop_succ_cons, Nat.add_mul, Nat.one_mul, ← flat_drop m r (fun y hy => h y (by simp [hy])) i]
   rw [List.drop_append, hx, List.drop_of_length_le (by omega), List.nil_append]
   congr 1
   omega
theorem flat_set {α : Type} (m : Nat) (X : List (List α)) (h : ∀ x ∈ X, x.length = m) (i : Nat) (hi : i < X.length) (v : List α) (hv : v.length = m) :
 X.flatten.take (i * m) ++ v ++ X.flatten.drop (i * m + v.length) = (X.set i v).flatten := by
 rw [hv, flat_take m X h, show i * m + m = (i + 1) * m by rw [Nat.add_mul]; omega, flat_drop m X h, List.set_eq_take_append_cons_drop, if_pos hi]
 simp
structure Off (fp : List Nat) (w w' : World) : Prop where
 os : w'.os = w.os
 tape : w'.tape = w.tape
 output : w'.output = w.output
 size : w.heap.size ≤ w'.heap.size
 block : ∀ k, k < w.heap.size → k ∉ fp → w'.heap[k]? = w.heap[k]?
theorem Off.refl (fp : List Nat) (w : World) : Off fp w w := ⟨rfl, rfl, rfl, Nat.le_refl _, fun _ _ _ => rfl⟩
theorem Off.trans {fp fp' : List Nat} {a b c : World} (h : Off fp a b) (k : Off fp' b c) (hfp : ∀ i ∈ fp', i ∈ fp ∨ a.heap.size ≤ i) : Off fp a c :=
 ⟨k.os.trans h.os, k.tape.trans h.tape, k.output.trans h.output, Nat.le_trans h.size k.size, fun i hi hn =>
  (k.block i (Nat.lt_of_lt_of_le hi h.size) (fun hm => by rcases hfp i hm with h1 | h1; exact hn h1; omega)).trans (h.block i hi hn)⟩
theorem Off.mono {fp fp' : List Nat} {a b : World} (h : Off fp a b) (hs : ∀ i ∈ fp, i ∈ fp') : Off fp' a b :=
 ⟨h.os, h.tape, h.output, h.size, fun k hk hn => h.block k hk (fun hm => hn (hs k hm))⟩
theorem Off.below {fp : List Nat} {a b : World} (h : Off fp a b) {B : Nat} (hB : B ≤ a.heap.size) (hf : ∀ k ∈ fp, B ≤ k) : Below B a b :=
 ⟨h.os, h.tape, h.output, h.size, fun k hk => h.block k (by omega) (fun hm => by have := hf k hm; omega)⟩
theorem Off.of_below {a b : World} (h : Below a.heap.size a b) (fp : List Nat) : Off fp a b :=
 ⟨h.os, h.tape, h.output, h.size, fun k hk _ => h.block k hk⟩
theorem Off.alloc {fp : List Nat} {a w : World} (h : Off fp a w) (o : Obj) : Off fp a (w.alloc o) :=
 ⟨h.os, h.tape, h.output, by have := h.size; simp; omega, fun k hk hn => (Below.heap_alloc _ _ _ (Nat.lt_of_lt_of_le hk h.size)).trans (h.block k hk hn)⟩
theorem Off.drew {fp : List Nat} {a w : World} (h : Off fp a w) : Off fp a w.drew := ⟨h.os, h.tape, h.output, h.size, h.block⟩
theorem Off.setCell {fp : List Nat} {a w : World} (h : Off fp a w) (p : Addr) (u : Value) (hp : p.block ∈ fp ∨ a.heap.size ≤ p.block) : Off fp a (w.setCell p u) :=
 ⟨h.os, h.tape, h.output, by have := h.size; simpa [World.setCell] using this, fun k hk hn => (Below.heap_setCell _ _ _ _ (fun e => by subst e; rcases hp with hp | hp; exact hn hp; omega)).trans (h.block k hk hn)⟩
theorem Off.setRow {fp : List Nat} {a w : World} (h : Off fp a w) (g : Nat) (cs : Array Value) (hp : g ∈ fp ∨ a.heap.size ≤ g) : Off fp a (w.setRow g cs) :=
 ⟨h.os, h.tape, h.output, by have := h.size; simpa [World.setRow] using this, fun k hk hn => (setRow_other w g k cs (fun e => by subst e; rcases hp with hp | hp; exact hn hp; omega)).trans (h.block k hk hn)⟩
theorem Off.grown {fp : List Nat} {a w w' : World} {row : Option Nat} (h : Off fp a w) (hg : w.grownBy w' row) (hr : ∀ k, row = some k → k ∈ fp ∨ a.heap.size ≤ k) : Off fp a w' :=
 ⟨hg.os.trans h.os, hg.tape.trans h.tape, hg.output.trans h.output, Nat.le_trans h.size hg.size, fun k hk hn =>
  (hg.block k (Nat.lt_of_lt_of_le hk h.size) (fun e => by rcases hr k e.symm with h1 | h1; exact hn h1; omega)).trans (h.block k hk hn)⟩
theorem owns_of_block {w w' : World} {e : TypeId} {size : Nat} {v : Value} {n : Nat} {xs : List Value} (h : w.ownsRow 0 e size v n xs) (hb : ∀ k, v.ownBlock = some k → w'.heap[k]? = w.heap[k]?) : w'.ownsRow 0 e size v n xs := by
 refine ⟨h.1, ?_⟩
 rcases h.2 with hn | ⟨g, cap, cur, rfl, hb', hgg, rest⟩
 · exact .inl hn
 · exact .inr ⟨g, cap, cur, rfl, hb', by rw [hb g rfl]; exact hgg, rest⟩
theorem src_of_block {w : World} {g : Nat} {t : TypeId} {fr : Nat × Nat} {X : List Value} (h : w.heap[g]? = some (.cells X.toArray t fr)) : ∀ j v, X[j]? = some v → w.cell? ((⟨g, 0, none⟩ : Addr).add j) = some v := fun j v hv => by
 rw [Addr.add_mid, Nat.zero_add, cell_of_row w g j _ _ _ h]
 simpa using hv
theorem owns_zero {w : World} {base : Nat} {e : TypeId} {size : Nat} {v : Value} {n : Nat} {xs : List Value} (h : w.ownsRow base e size v n xs) : w.ownsRow 0 e size v n xs := by
 refine ⟨h.1, ?_⟩
 rcases h.2 with hn | ⟨g, cap, cur, hv, _, rest⟩
 · exact .inl hn
 · exact .inr ⟨g, cap, cur, hv, Nat.zero_le _, rest⟩
theorem run_append_owned {P : Program} (w : World) (t ty e : TypeId) (i : TypeInfo) (z : Value) (size bytes : Nat) (ht : P.underlying t = some (.slice e)) (hi : P.info? e = some i) (hz : i.zero = some z)
 (hsize : i.size = size) (hby : i.bytes = bytes) (hzs : z.cells.size = size) (hsz : 0 < size)
 (v : Value) (n : Nat) (xs : List Value) (hown : w.ownsRow 0 e size v n xs)
 (a : Addr) (m c : Nat) (news : List Value) (hl : news.length = m * size) (hnews : ∀ j u, news[j]? = some u → w.cell? (a.add j) = some u) (h1 : ∀ u ∈ news, u.oneCell' = true)
 (h63 : n + m ≤ maxLen) (hbytes : (n + m) * bytes ≤ 140737488355328) :
 ∃ v' w', (Builtin.append_ #[t, t] ty #[v, .slice (some a) m c]).run P w = .ok v' w' ∧ w'.ownsRow 0 e size v' (n + m) (xs ++ news) ∧ w.grownBy w' v.ownBlock ∧
   (∀ k, v'.ownBlock = some k → v.ownBlock = some k ∨ w.heap.size ≤ k) := by
 rcases hown.2 with ⟨rfl, rfl⟩ | ⟨g, cap, cur, rfl, _, hg, hnc, hcm, hcs, htake⟩
 · obtain rfl : xs = [] := List.eq_nil_of_length_eq_zero (by simpa using hown.1)
   obtain ⟨v', w', hr, ho, hgr, _⟩ := run_append_own (P := P) w w.heap.size t ty e i z size bytes ht hi hz hsize hby hzs hsz (.slice none 0 0) 0 [] (World.ownsRow_nil w _ e size) a m c news hl hnews h1 h63 hbytes (Nat.le_refl _)
   exact ⟨v', w', hr, owns_zero ho, hgr, fun k hk => .inr (ho.lt k hk).1⟩
 · by_cases hroom : n + m ≤ cap
   · obtain ⟨v', w', hr, ho, hgr, _⟩ := run_append_own (P := P) w 0 t ty e i z size bytes ht hi hz hsize hby hzs hsz _ n xs hown a m c news hl hnews h1 h63 hbytes (Nat.zero_le _)
     subst hsize
     have hr2 := run_append_room (P := P) w t ty e i ht hi g n cap cur hg a m c news hl hnews h1 hroom (by rw [hl, hcs, ← Nat.add_mul]; exact Nat.mul_le_mul_right _ hroom)
     have hv : v' = .slice (some ⟨g, 0, none⟩) (n + m) cap := by
      have := hr.symm.trans hr2
      injection this
     refine ⟨v', w', hr, ho, hgr, fun k hk => .inl ?_⟩
     rw [hv] at hk
     exact hk
   · obtain ⟨v', w', hr, ho, hgr⟩ := run_append_arg_grows (P := P) w t ty e i z size bytes ht hi hz hsize hby hzs hsz ⟨g, 0, none⟩ n cap xs hown.1 (hown.cells rfl) a m c news hl hnews (by omega) h63 hbytes
     exact ⟨v', w', hr, owns_zero ho, ⟨hgr.os, hgr.tape, hgr.output, hgr.size, fun k hk _ => hgr.block k hk (by simp)⟩, fun k hk => .inr (ho.lt k hk).1⟩
theorem step_append_owned {P : Program} {ops : Array Oper} {o : Oper} {a : Act} {w : World} {K : Act → World → Prop} {Q : Exit → Act → World → Prop} {E : Prop}
 (hg : o.guard = none) (s x : Operand) (t : TypeId) (hop : o.op = Op.call { callee := Callee.builtin Builtin.append, args := #[s, x], argTypes := #[t, t] })
 (e : TypeId) (z : Value) (size bytes : Nat) (ht : P.underlying t = some (.slice e)) (hi : (P.info? e).map (fun i => (i.zero, i.size, i.bytes)) = some (some z, size, bytes)) (hzs : z.cells.size = size) (hsz : 0 < size)
 (v : Value) (n : Nat) (xs : List Value) (hs : a.eval s = v) (hown : w.ownsRow 0 e size v n xs)
 (ad : Addr) (m c : Nat) (news : List Value) (hx : a.eval x = .slice (some ad) m c) (hl : news.length = m * size) (hnews : ∀ j u, news[j]? = some u → w.cell? (ad.add j) = some u) (h1 : ∀ u ∈ news, u.oneCell' = true)
 (h63 : n + m ≤ maxLen) (hbytes : (n + m) * bytes ≤ 140737488355328)
 (hK : ∀ v' w', w'.ownsRow 0 e size v' (n + m) (xs ++ news) → w.grownBy w' v.ownBlock → (∀ k, v'.ownBlock = some k → v.ownBlock = some k ∨ w.heap.size ≤ k) → K (a.put o.dst v') w') :
 if Region.wanted o (yielded ops a.tmps) = true then Oper.wp P o a w K Q else E := by
 have hw : Region.wanted o (yielded ops a.tmps) = true := by simp [Region.wanted, hg]
 rw [if_pos hw]
 obtain ⟨i, hi, hz⟩ := Option.map_eq_some_iff.1 hi
 simp only [Prod.mk.injEq] at hz
 obtain ⟨hz, hsize, hby⟩ := hz
 obtain ⟨v', w', hrun, r1, r2, r3⟩ := run_append_owned (P := P) w t o.type e i z size bytes ht hi hz hsize hby hzs hsz v n xs hown ad m c news hl hnews h1 h63 hbytes
 unfold Oper.wp
 simp [execOp, hop, resolve, invoke, builtin, hs, hx, hrun, Result.andThen]
 exact hK v' w' r1 r2 r3
theorem wpList_append_owned {P : Program} {ops : Array Oper} {rest : List Oper} {o : Oper} {a : Act} {w : World} {Q : Exit → Act → World → Prop}
 (hg : o.guard = none) (s x : Operand) (t : TypeId) (hop : o.op = Op.call { callee := Callee.builtin Builtin.append, args := #[s, x], argTypes := #[t, t] })
 (e : TypeId) (z : Value) (size bytes : Nat) (ht : P.underlying t = some (.slice e)) (hi : (P.info? e).map (fun i => (i.zero, i.size, i.bytes)) = some (some z, size, bytes)) (hzs : z.cells.size = size) (hsz : 0 < size)
 (v : Value) (n : Nat) (xs : List Value) (hs : a.eval s = v) (hown : w.ownsRow 0 e size v n xs)
 (ad : Addr) (m c : Nat) (news : List Value) (hx : a.eval x = .slice (some ad) m c) (hl : news.length = m * size) (hnews : ∀ j u, news[j]? = some u → w.cell? (ad.add j) = some u) (h1 : ∀ u ∈ news, u.oneCell' = true)
 (h63 : n + m ≤ maxLen) (hbytes : (n + m) * bytes ≤ 140737488355328)
 (hK : ∀ v' w', w'.ownsRow 0 e size v' (n + m) (xs ++ news) → w.grownBy w' v.ownBlock → (∀ k, v'.ownBlock = some k → v.ownBlock = some k ∨ w.heap.size ≤ k) → wpList P ops Q rest (a.put o.dst v') w') :
 wpList P ops Q (o :: rest) a w := by
 refine wpList_plain hg fun K hK' => ?_
 obtain ⟨i, hi, hz⟩ := Option.map_eq_some_iff.1 hi
 simp only [Prod.mk.injEq] at hz
 obtain ⟨hz, hsize, hby⟩ := hz
 obtain ⟨v', w', hrun, r1, r2, r3⟩ := run_append_owned (P := P) w t o.type e i z size bytes ht hi hz hsize hby hzs hsz v n xs hown ad m c news hl hnews h1 h63 hbytes
 unfold Oper.wp
 simp [execOp, hop, resolve, invoke, builtin, hs, hx, hrun, Result.andThen]
 exact hK' _ _ (hK v' w' r1 r2 r3)
theorem take_to {P : Program} {ops : Array Oper} {Q : Exit → Act → World → Prop} {md : Region.Mode} {S : World → Prop} {oi : Oper} {fuel : Nat} {listed : Array Bool} {a : Act} {w : World} (i dst : Nat) (v : Value) (hi : ops[i]? = some oi)
 (hs : Region.noSelect ops = true) (hf : Region.free md ops listed i = true) (hr : (Region.ready md ops listed).contains i = true)
 (hQ : ∀ c a w, Q (.panic c) (a.put oi.dst v) w → Q (.panic c) a w) (hd : oi.dst = some dst) (hw : Region.wanted oi (yielded ops a.tmps) = true) (hy : ∀ w, S w → (execOp a.eval oi).run P w = .ok (.value v) w) (hS : S w)
 (h : wpAnyH P md ops Q S fuel (listed.setIfInBounds i true) (a.put (some dst) v) w) : wpAnyH P md ops Q S (fuel + 1) listed a w :=
 wpAnyH_take hi hs hf hr hQ (.inl ⟨hw, hy⟩) hS (by rw [hd]; exact h)
theorem op_to {P : Program} {ops : Array Oper} {Q : Exit → Act → World → Prop} {oi : Oper} {a : Act} {w : World} {K : Act → World → Prop} {i : Nat} (dst : Nat) (v : Value) (w' : World) (hi : ops[i]? = some oi)
 (hd : oi.dst = some dst) (hw : Region.wanted oi (yielded ops a.tmps) = true) (hy : (execOp a.eval oi).run P w = .ok (.value v) w') (h : K (a.put (some dst) v) w') : wpOp P ops Q i K a w := by
 refine wpOp_step hi (fun K' hK => ?_)
 rw [if_pos hw]
 unfold Oper.wp
 rw [hy, Oper.upon_value, hd]
 exact hK _ _ h
theorem step_to {P : Program} {ops : Array Oper} {Q : Exit → Act → World → Prop} {md : Region.Mode} {S : World → Prop} {oi : Oper} {fuel : Nat} {listed : Array Bool} {a : Act} {w : World} (i dst : Nat) (v : Value) (w' : World) (hi : ops[i]? = some oi)
 (hr : Region.ready md ops listed = [i]) (hd : oi.dst = some dst) (hw : Region.wanted oi (yielded ops a.tmps) = true) (hy : (execOp a.eval oi).run P w = .ok (.value v) w') (hS : S w')
 (h : wpAnyH P md ops Q S fuel (listed.setIfInBounds i true) (a.put (some dst) v) w') : wpAnyH P md ops Q S (fuel + 1) listed a w := by
 refine wpAnyH_ready hr (by simp) (AllReadyH.cons hi (fun K hK => ?_) AllReadyH.nil)
 rw [if_pos hw]
 unfold Oper.wp
 rw [hy, Oper.upon_value, hd]
 exact hK.out _ _ hS (fun _ => h)
theorem step_by {P : Program} {ops : Array Oper} {Q : Exit → Act → World → Prop} {md : Region.Mode} {S : World → Prop} {oi : Oper} {fuel : Nat} {listed : Array Bool} {a : Act} {w : World} (i : Nat) (hi : ops[i]? = some oi)
 (hr : Region.ready md ops listed = [i])
 (h : ∀ K : Act → World → Prop, (∀ a' w', S w' → wpAnyH P md ops Q S fuel (listed.setIfInBounds i true) a' w' → K a' w') → if Region.wanted oi (yielded ops a.tmps) = true then Oper.wp P oi a w K Q else K (a.put oi.dst undef) w) :
 wpAnyH P md ops Q S (fuel + 1) listed a w := by
 refine wpAnyH_ready hr (by simp) (AllReadyH.cons hi (fun K hK => ?_) AllReadyH.nil)
 exact h K (fun a' w' hS hw => hK.out _ _ hS (fun _ => hw))
theorem step_append_to {P : Program} {ops : Array Oper} {Q : Exit → Act → World → Prop} {md : Region.Mode} {S : World → Prop} {o : Oper} {fuel : Nat} {listed : Array Bool} {a : Act} {w : World} (j dst : Nat) (hj : ops[j]? = some o)
 (hr : Region.ready md ops listed = [j]) (hd : o.dst = some dst)
 (hg : o.guard = none) (s x : Operand) (t : TypeId) (hop : o.op = Op.call { callee := Callee.builtin Builtin.append, args := #[s, x], argTypes := #[t, t] })
 (e : TypeId) (z : Value) (size bytes : Nat) (ht : P.underlying t = some (.slice e)) (hi : (P.info? e).map (fun i => (i.zero, i.size, i.bytes)) = some (some z, size, bytes)) (hzs : z.cells.size = size) (hsz : 0 < size)
 (v : Value) (n : Nat) (xs : List Value) (hs : a.eval s = v) (hown : w.ownsRow 0 e size v n xs)
 (ad : Addr) (m c : Nat) (news : List Value) (hx : a.eval x = .slice (some ad) m c) (hl : news.length = m * size) (hnews : ∀ j u, news[j]? = some u → w.cell? (ad.add j) = some u) (h1 : ∀ u ∈ news, u.oneCell' = true)
 (h63 : n + m ≤ maxLen) (hbytes : (n + m) * bytes ≤ 140737488355328)
 (hK : ∀ v' w', w'.ownsRow 0 e size v' (n + m) (xs ++ news) → w.grownBy w' v.ownBlock → (∀ k, v'.ownBlock = some k → v.ownBlock = some k ∨ w.heap.size ≤ k) → S w' ∧ wpAnyH P md ops Q S fuel (listed.setIfInBounds j true) (a.put (some dst) v') w') :
 wpAnyH P md ops Q S (fuel + 1) listed a w :=
 step_by j hj hr (fun _ hK' => step_append_owned hg s x t hop e z size bytes ht hi hzs hsz v n xs hs hown ad m c news hx hl hnews h1 h63 hbytes
  (fun v' w' r1 r2 r3 => hK' _ _ (hK v' w' r1 r2 r3).1 (by rw [hd]; exact (hK v' w' r1 r2 r3).2)))
theorem step_store_to {P : Program} {ops : Array Oper} {Q : Exit → Act → World → Prop} {md : Region.Mode} {S : World → Prop} {o : Oper} {fuel : Nat} {listed : Array Bool} {a : Act} {w : World} (j : Nat) (w' : World) (hj : ops[j]? = some o)
 (hr : Region.ready md ops listed = [j]) (hd : o.dst = none) (hw : Region.wanted o (yielded ops a.tmps) = true) (t : TypeId) (x y : Operand) (hop : o.op = Op.store t x y) (px v : Value) (hx : a.eval x = px) (hy : a.eval y = v)
 (hrun : (Instr.storeAt t px v).run P w = .ok () w') (hS : S w') (h : wpAnyH P md ops Q S fuel (listed.setIfInBounds j true) a w') : wpAnyH P md ops Q S (fuel + 1) listed a w := by
 refine step_by j hj hr (fun K hK => ?_)
 rw [if_pos hw]
 unfold Oper.wp execOp
 simp only [hop, hx, hy, Sem.run_bind, hrun, Result.andThen_ok, Sem.run_pure, Oper.upon_skip]
 rw [hd]
 exact hK _ _ hS h
theorem buildSlice_op (ρ : Operand → Value) (o : Oper) (t : TypeId) (len j : Nat) (x : Operand) (ho : o.op = .buildSlice t len #[(j, x)]) (v : Value) (hx : ρ x = v) :
 execOp ρ o = (do pure (Next.value (← Instr.buildSlice t len #[(j, v)]))) := by
 unfold execOp
 simp [ho, hx]
theorem own_form {w : World} {e : TypeId} {size n : Nat} {v : Value} {xs : List Value} (h : w.ownsRow 0 e size v n xs) : ∃ ao m c, v = .slice ao m c := by
 rcases h.2 with ⟨rfl, _⟩ | ⟨g, cap, cur, rfl, _⟩
 · exact ⟨_, _, _, rfl⟩
 · exact ⟨_, _, _, rfl⟩
theorem run_storeAt_in {P : Program} (w : World) (b o : Nat) (t ty : TypeId) (cur : Array Value) (cs : List Value) (hg : w.heap[b]? = some (.cells cur t (0, 0))) (hfit : o + cs.length ≤ cur.size) (hi : (P.info? ty).map (·.size) = some cs.length) (h1 : ∀ v ∈ cs, v.oneCell' = true) :
 (Instr.storeAt ty (.pointer (some ⟨b, o, none⟩)) (.agg cs.toArray)).run P w = .ok () (w.setRow b (cur.toList.take o ++ cs ++ cur.toList.drop (o + cs.length)).toArray) := by
 have hr := run_storeCells_at P b o t cs 0 cur w hg (by simpa using hfit) h1
 simp only [Nat.add_zero] at hr
 cases hq : P.info? ty with
 | none => simp [hq] at hi
 | some i =>
   have hs : cs.length = i.size := by simp [hq] at hi; omega
   simp [Instr.storeAt, Instr.sureAddr, storeVar, sizeOf, typeInfo, hq, Value.cells, hs]
   rw [hs, List.append_assoc] at hr
   exact hr
theorem op_load (ρ : Operand → Value) (o : Oper) (t : TypeId) (x : Operand) (ho : o.op = .load t x) (px v : Value) (hx : ρ x = px) {P : Program} {w : World} (hr : (Instr.loadAt t px).run P w = .ok v w) : (execOp ρ o).run P w = .ok (.value v) w := by
 unfold execOp
 simp only [ho, hx, Sem.run_bind, hr, Result.andThen_ok, Sem.run_pure]
theorem op_index (ρ : Operand → Value) (o : Oper) (t : TypeId) (x y : Operand) (ho : o.op = .indexAddr t x y) (px py v : Value) (hx : ρ x = px) (hy : ρ y = py) {P : Program} {w : World} (hr : (Instr.indexAt t px py).run P w = .ok v w) : (execOp ρ o).run P w = .ok (.value v) w := by
 unfold execOp
 simp only [ho, hx, hy, Sem.run_bind, hr, Result.andThen_ok, Sem.run_pure]
theorem Off.drewN {fp : List Nat} {a w : World} (h : Off fp a w) (m : Nat) : Off fp a (w.drewN m) := ⟨h.os, h.tape, h.output, h.size, h.block⟩
theorem Off.undrewN {fp : List Nat} {a w : World} {m : Nat} (h : Off fp (a.drewN m) w) : Off fp a w := ⟨h.os, h.tape, h.output, h.size, h.block⟩
theorem below_drewN (B : Nat) (w : World) (m : Nat) : Below B w (w.drewN m) := ⟨rfl, rfl, rfl, Nat.le_refl _, fun _ _ => rfl⟩
def Exit.jumps (J : Nat → Act → World → Prop) (Q : Exit → Act → World → Prop) : Exit → Act → World → Prop
 | .goto l, a, w => J l a w
 | e, a, w => Q e a w
theorem Exit.jumps_ret {J : Nat → Act → World → Prop} {Q : Exit → Act → World → Prop} {a : Act} {w : World} : Exit.jumps J Q .ret a w = Q .ret a w := rfl
def fwd (P : Program) (c : Code) (Q : Exit → Act → World → Prop) : Nat → Nat → Act → World → Prop
 | 0, _, _, _ => False
 | n + 1, l, a, w => ∃ rest, findLabel c l = some rest ∧ rest.wp P (Exit.jumps (fwd P c Q n) Q) a w
theorem wp_scope_fwd {P : Program} {Q : Exit → Act → World → Prop} {a : Act} {w : World} {c : Code} (n : Nat) (first : c.wp P (Exit.jumps (fwd P c Q n) Q) a w) : (Code.scope c).wp P Q a w := by
 intro b k cs
 have key : ∀ n l a w, fwd P c Q n l a w → ∃ rest, findLabel c l = some rest ∧ ∃ e a' w', Q e a' w' ∧ Arrives P (lone (b.at a (.code rest :: .inScope c :: k)) cs w) b k cs e a' w' := by
  intro n
  induction n with
  | zero => intro l a w h; exact h.elim
  | succ n ih =>
    rintro l a w ⟨rest, hf, hw⟩
    refine ⟨rest, hf, ?_⟩
    obtain ⟨e, a₁, w₁, hq, harr⟩ := hw b (.inScope c :: k) cs
    cases e with
    | normal => exact ⟨.normal, a₁, w₁, hq, Steps.trans harr (.one step_inScope)⟩
    | exit id => exact ⟨.exit id, a₁, w₁, hq, fun k' hk => harr k' (by simp [exitTo, hk])⟩
    | goto l' =>
      obtain ⟨rest', hf', e₂, a₂, w₂, hq₂, harr₂⟩ := ih l' a₁ w₁ hq
      have hg : gotoIn l' (.inScope c :: k) = some (.code rest' :: .inScope c :: k) := by simp [gotoIn, hf']
      exact ⟨e₂, a₂, w₂, hq₂, .of_steps (harr _ hg) harr₂⟩
    | ret => exact ⟨_, a₁, w₁, hq, harr⟩
    | panic ch => exact ⟨_, a₁, w₁, hq, harr⟩
    | outgrown => exact ⟨_, a₁, w₁, hq, harr⟩
 obtain ⟨e, a₁, w₁, hq, harr⟩ := first b (.inScope c :: k) cs
 cases e with
 | normal => exact ⟨.normal, a₁, w₁, hq, .head step_scope (Steps.trans harr (.one step_inScope))⟩
 | exit id => exact ⟨.exit id, a₁, w₁, hq, fun k' hk => .head step_scope (harr k' (by simp [exitTo, hk]))⟩
 | goto l' =>
   obtain ⟨rest', hf', e₂, a₂, w₂, hq₂, harr₂⟩ := key n l' a₁ w₁ hq
   have hg : gotoIn l' (.inScope c :: k) = some (.code rest' :: .inScope c :: k) := by simp [gotoIn, hf']
   exact ⟨e₂, a₂, w₂, hq₂, .of_steps (.head step_scope (harr _ hg)) harr₂⟩
 | ret => exact ⟨_, a₁, w₁, hq, .of_steps (.one step_scope) harr⟩
 | panic ch => exact ⟨_, a₁, w₁, hq, .of_steps (.one step_scope) harr⟩
 | outgrown => exact ⟨_, a₁, w₁, hq, .of_steps (.one step_scope) harr⟩
theorem step_call1_to {P : Program} {ops : Array Oper} {Q : Exit → Act → World → Prop} {md : Region.Mode} {S : World → Prop} {o : Oper} {fuel : Nat} {listed : Array Bool} {a : Act} {w : World} {R : Ending → World → Prop} (j dst f : Nat) (hj : ops[j]? = some o)
 (hr : Region.ready md ops listed = [j]) (hd : o.dst = some dst) (hw : Region.wanted o (yielded ops a.tmps) = true) (x : Operand) (ts : Array TypeId) (hop : o.op = Op.call { callee := Callee.value (Operand.func f), args := #[x], argTypes := ts })
 (vx : Value) (hx : a.eval x = vx) (hcf : ∀ args w, (callFunc f args).run P w = .ok (.enter f args) w) (hc : Calls P f #[vx] w R)
 (hK : ∀ e w', R e w' → ∃ v, e = .returned v ∧ S w' ∧ wpAnyH P md ops Q S fuel (listed.setIfInBounds j true) (a.put (some dst) v) w') : wpAnyH P md ops Q S (fuel + 1) listed a w := by
 refine step_by j hj hr (fun K hK' => ?_)
 rw [if_pos hw]
 have hrun : (execOp a.eval o).run P w = .ok (.enter f #[vx]) w := by
  have hff : a.eval (.func f) = .func (.func f) #[] #[] := rfl
  unfold execOp
  simp [hop, resolve, hff, Deferred.ofValue, invoke, hx]
  exact hcf _ _
 unfold Oper.wp
 rw [hrun, Oper.upon_enter]
 refine hc.mono ?_
 intro e w' hR
 obtain ⟨v, rfl, hS, hW⟩ := hK e w' hR
 show K (a.put o.dst v) w'
 rw [hd]
 exact hK' _ _ hS hW
theorem step_call2_to {P : Program} {ops : Array Oper} {Q : Exit → Act → World → Prop} {md : Region.Mode} {S : World → Prop} {o : Oper} {fuel : Nat} {listed : Array Bool} {a : Act} {w : World} {R : Ending → World → Prop} (j dst f : Nat) (hj : ops[j]? = some o)
 (hr : Region.ready md ops listed = [j]) (hd : o.dst = some dst) (hw : Region.wanted o (yielded ops a.tmps) = true) (x y : Operand) (ts : Array TypeId) (hop : o.op = Op.call { callee := Callee.value (Operand.func f), args := #[x, y], argTypes := ts })
 (vx vy : Value) (hx : a.eval x = vx) (hy : a.eval y = vy) (hcf : ∀ args w, (callFunc f args).run P w = .ok (.enter f args) w) (hc : Calls P f #[vx, vy] w R)
 (hK : ∀ e w', R e w' → ∃ v, e = .returned v ∧ S w' ∧ wpAnyH P md ops Q S fuel (listed.setIfInBounds j true) (a.put (some dst) v) w') : wpAnyH P md ops Q S (fuel + 1) listed a w := by
 refine step_by j hj hr (fun K hK' => ?_)
 rw [if_pos hw]
 have hrun : (execOp a.eval o).run P w = .ok (.enter f #[vx, vy]) w := by
  have hff : a.eval (.func f) = .func (.func f) #[] #[] := rfl
  unfold execOp
  simp [hop, resolve, hff, Deferred.ofValue, invoke, hx, hy]
  exact hcf _ _
 unfold Oper.wp
 rw [hrun, Oper.upon_enter]
 refine hc.mono ?_
 intro e w' hR
 obtain ⟨v, rfl, hS, hW⟩ := hK e w' hR
 show K (a.put o.dst v) w'
 rw [hd]
 exact hK' _ _ hS hW
theorem step_call3_to {P : Program} {ops : Array Oper} {Q : Exit → Act → World → Prop} {md : Region.Mode} {S : World → Prop} {o : Oper} {fuel : Nat} {listed : Array Bool} {a : Act} {w : World} {R : Ending → World → Prop} (j dst f : Nat) (hj : ops[j]? = some o)
 (hr : Region.ready md ops listed = [j]) (hd : o.dst = some dst) (hw : Region.wanted o (yielded ops a.tmps) = true) (x y z : Operand) (ts : Array TypeId) (hop : o.op = Op.call { callee := Callee.value (Operand.func f), args := #[x, y, z], argTypes := ts })
 (vx vy vz : Value) (hx : a.eval x = vx) (hy : a.eval y = vy) (hz : a.eval z = vz) (hcf : ∀ args w, (callFunc f args).run P w = .ok (.enter f args) w) (hc : Calls P f #[vx, vy, vz] w R)
 (hK : ∀ e w', R e w' → ∃ v, e = .returned v ∧ S w' ∧ wpAnyH P md ops Q S fuel (listed.setIfInBounds j true) (a.put (some dst) v) w') : wpAnyH P md ops Q S (fuel + 1) listed a w := by
 refine step_by j hj hr (fun K hK' => ?_)
 rw [if_pos hw]
 have hrun : (execOp a.eval o).run P w = .ok (.enter f #[vx, vy, vz]) w := by
  have hff : a.eval (.func f) = .func (.func f) #[] #[] := rfl
  unfold execOp
  simp [hop, resolve, hff, Deferred.ofValue, invoke, hx, hy, hz]
  exact hcf _ _
 unfold Oper.wp
 rw [hrun, Oper.upon_enter]
 refine hc.mono ?_
 intro e w' hR
 obtain ⟨v, rfl, hS, hW⟩ := hK e w' hR
 show K (a.put o.dst v) w'
 rw [hd]
 exact hK' _ _ hS hW
theorem op_len (ρ : Operand → Value) (o : Oper) (x : Operand) (t e : TypeId) (hu : Tryz.prog.underlying t = some (.slice e)) (ho : o.op = .call { callee := .builtin .len, args := #[x], argTypes := #[t] }) (a : Option Addr) (n c : Nat) (hx : ρ x = .slice a n c) {w : World} : (execOp ρ o).run Tryz.prog w = .ok (.value (.int .i64 (n : Int))) w := by
 unfold execOp
 simp [ho, hx, go_sem, resolve, invoke, builtin, Builtin.len_, run_underlying hu, goInt]
theorem run_loadAny (w : World) (b o t : Nat) (v : Value) (ha : ∀ w, (isAgg t).run Tryz.prog w = .ok false w) (h : w.cell? ⟨b, o, none⟩ = some v) : (Instr.loadAt t (.pointer (some ⟨b, o, none⟩))).run Tryz.prog w = .ok v w := by
 simp [go_sem, ha, h]
theorem step_callv1_to {P : Program} {ops : Array Oper} {Q : Exit → Act → World → Prop} {md : Region.Mode} {S : World → Prop} {o : Oper} {fuel : Nat} {listed : Array Bool} {a : Act} {w : World} {R : Ending → World → Prop} (j dst f : Nat) (cb : Array Value) (hj : ops[j]? = some o)
 (hr : Region.ready md ops listed = [j]) (hd : o.dst = some dst) (hw : Region.wanted o (yielded ops a.tmps) = true) (fo x : Operand) (ts : Array TypeId) (hop : o.op = Op.call { callee := Callee.value fo, args := #[x], argTypes := ts })
 (vx : Value) (hf : a.eval fo = .func (.func f) #[] cb) (hx : a.eval x = vx) (hcf : ∀ args w, (callFunc f args).run P w = .ok (.enter f args) w) (hc : Calls P f (#[vx] ++ cb) w R)
 (hK : ∀ e w', R e w' → ∃ v, e = .returned v ∧ S w' ∧ wpAnyH P md ops Q S fuel (listed.setIfInBounds j true) (a.put (some dst) v) w') : wpAnyH P md ops Q S (fuel + 1) listed a w := by
 refine step_by j hj hr (fun K hK' => ?_)
 rw [if_pos hw]
 have hrun : (execOp a.eval o).run P w = .ok (.enter f (#[vx] ++ cb)) w := by
  unfold execOp
  simp [hop, resolve, hf, Deferred.ofValue, invoke, hx]
  exact hcf _ _
 unfold Oper.wp
 rw [hrun, Oper.upon_enter]
 refine hc.mono ?_
 intro e w' hR
 obtain ⟨v, rfl, hS, hW⟩ := hK e w' hR
 show K (a.put o.dst v) w'
 rw [hd]
 exact hK' _ _ hS hW
theorem wpList_store_in {P : Program} {ops : Array Oper} {rest : List Oper} {op : Oper} {a : Act} {w : World} {Q : Exit → Act → World → Prop} (hgd : op.guard = none) (ty : TypeId) (x y : Operand) (ho : op.op = .store ty x y) (hd : op.dst = none)
 (b o : Nat) (cs : List Value) (w' : World) (hx : a.eval x = .pointer (some ⟨b, o, none⟩)) (hy : a.eval y = .agg cs.toArray) (hr : (Instr.storeAt ty (.pointer (some ⟨b, o, none⟩)) (.agg cs.toArray)).run P w = .ok () w')
 (h : wpList P ops Q rest a w') : wpList P ops Q (op :: rest) a w :=
 wpList_plain hgd fun K hK => by
  unfold Oper.wp execOp
  simp only [ho, hx, hy, Sem.run_bind, hr, Result.andThen_ok, Sem.run_pure, Oper.upon_skip]
  exact hK _ _ (by rw [hd]; exact h)
theorem step_call4_to {P : Program} {ops : Array Oper} {Q : Exit → Act → World → Prop} {md : Region.Mode} {S : World → Prop} {o : Oper} {fuel : Nat} {listed : Array Bool} {a : Act} {w : World} {R : Ending → World → Prop} (j dst f : Nat) (hj : ops[j]? = some o)
 (hr : Region.ready md ops listed = [j]) (hd : o.dst = some dst) (hw : Region.wanted o (yielded ops a.tmps) = true) (x y z u : Operand) (ts : Array TypeId) (hop : o.op = Op.call { callee := Callee.value (Operand.func f), args := #[x, y, z, u], argTypes := ts })
 (vx vy vz vu : Value) (hx : a.eval x = vx) (hy : a.eval y = vy) (hz : a.eval z = vz) (hu : a.eval u = vu) (hcf : ∀ args w, (callFunc f args).run P w = .ok (.enter f args) w) (hc : Calls P f #[vx, vy, vz, vu] w R)
 (hK : ∀ e w', R e w' → ∃ v, e = .returned v ∧ S w' ∧ wpAnyH P md ops Q S fuel (listed.setIfInBounds j true) (a.put (some dst) v) w') : wpAnyH P md ops Q S (fuel + 1) listed a w := by
 refine step_by j hj hr (fun K hK' => ?_)
 rw [if_pos hw]
 have hrun : (execOp a.eval o).run P w = .ok (.enter f #[vx, vy, vz, vu]) w := by
  have hff : a.eval (.func f) = .func (.func f) #[] #[] := rfl
  unfold execOp
  simp [hop, resolve, hff, Deferred.ofValue, invoke, hx, hy, hz, hu]
  exact hcf _ _
 unfold Oper.wp
 rw [hrun, Oper.upon_enter]
 refine hc.mono ?_
 intro e w' hR
 obtain ⟨v, rfl, hS, hW⟩ := hK e w' hR
 show K (a.put o.dst v) w'
 rw [hd]
 exact hK' _ _ hS hW
theorem flat_set1 {α : Type} (m : Nat) (v : α) : ∀ (X : List (List α)) (_ : ∀ x ∈ X, x.length = m) (i : Nat) (hi : i < X.length) (j : Nat) (_ : j < m), X.flatten.set (i * m + j) v = (X.set i ((X[i]'hi).set j v)).flatten
 | [], _, i, hi, _, _ => by simp at hi
 | x :: r, h, 0, _, j, hj => by
   have hx : x.length = m := h x (by simp)
   rw [List.flatten_cons, Nat.zero_mul, Nat.zero_add, List.set_append_left _ _ (by omega)]
   rfl
 | x :: r, h, i + 1, hi, j, hj => by
   have hx : x.length = m := h x (by simp)
   rw [List.flatten_cons, List.set_append_right _ _ (by rw [hx, Nat.add_mul]; omega), hx, show (i + 1) * m + j - m = i * m + j by rw [Nat.add_mul]; omega,
    flat_set1 m v r (fun y hy => h y (by simp [hy])) i (by simpa using hi) j hj]
   rfl
theorem op_add3 (ρ : Operand → Value) (o : Oper) (x y : Operand) (tt : TypeId) (ho : o.op = .binOp .add 3 x y tt) (n m : Int) (hx : ρ x = .int .i64 n) (hy : ρ y = .int .i64 m) (b : Int) (hb : IntKind.i64.wrap (n + m) = b) {w : World} : (execOp ρ o).run Tryz.prog w = .ok (.value (.int .i64 b)) w := by
 have hu := Tryz.underlying3
 unfold execOp
 simp only [ho, hx, hy]
 simp [go_sem, hu, hb]
theorem op_rem3 (ρ : Operand → Value) (o : Oper) (x y : Operand) (tt : TypeId) (ho : o.op = .binOp .rem 3 x y tt) (n m : Int) (hx : ρ x = .int .i64 n) (hy : ρ y = .int .i64 m) (b : Int) (hm : 0 < m) (hb : n.tmod m = b) {w : World} : (execOp ρ o).run Tryz.prog w = .ok (.value (.int .i64 b)) w := by
 have hu := Tryz.underlying3
 have h0 : (m == 0) = false := beq_eq_false_iff_ne.2 (by omega)
 have h0' : m ≠ 0 := by omega
 unfold execOp
 simp only [ho, hx, hy]
 simp [go_sem, hu, hb, h0, h0']
def Kept (xs : List Nat) (w w' : World) : Prop := w.heap.size ≤ w'.heap.size ∧ ∀ k ∈ xs, w'.heap[k]? = w.heap[k]?
theorem Kept.refl (xs : List Nat) (w : World) : Kept xs w w := ⟨Nat.le_refl _, fun _ _ => rfl⟩
theorem Kept.trans {xs : List Nat} {a b c : World} (h : Kept xs a b) (k : Kept xs b c) : Kept xs a c := ⟨Nat.le_trans h.1 k.1, fun i hi => (k.2 i hi).trans (h.2 i hi)⟩
theorem Kept.mono {xs ys : List Nat} {a b : World} (h : Kept xs a b) (hy : ∀ k ∈ ys, k ∈ xs) : Kept ys a b := ⟨h.1, fun k hk => h.2 k (hy k hk)⟩
end Go.Proofs.YteeembildppgmaaGreat.Rd
namespace Go.Proofs.YteeembildppgmaaGreat.Rd
open Go.RowKit Go.WideAt
set_option linter.unusedVariables false
set_option linter.unusedSimpArgs false
def In64 (k : Int) : Prop := -9223372036854775808 ≤ k ∧ k ≤ 9223372036854775807
theorem wf64 {k : Int} (h : In64 k) : (Lit.int .i64 k).wf = true := by
 have : (decide (IntKind.i64.min ≤ k) && decide (k ≤ IntKind.i64.max)) = true := by
  rw [Bool.and_eq_true, decide_eq_true_eq, decide_eq_true_eq]
  exact h
 exact this
theorem in64 {k : Int} (h : (Lit.int .i64 k).wf = true) : In64 k := by
 have : (decide (IntKind.i64.min ≤ k) && decide (k ≤ IntKind.i64.max)) = true := h
 rw [Bool.and_eq_true, decide_eq_true_eq, decide_eq_true_eq] at this
 exact this
theorem keyedI : Maps.Keyed Tryz.prog 3 := Maps.int_keyed Tryz.underlying3
theorem keyI {k : Int} (h : In64 k) : keyOf Tryz.prog 3 (Value.int .i64 k) = some (Lit.int .i64 k) := Maps.keyOf_int_mk Tryz.underlying3 (wf64 h)
theorem kl_int (x : Int) : WideAt.IsKeyLit (.int .i64 x) := by first | trivial | exact True.intro | simp [WideAt.IsKeyLit]
def MapI (w : World) (b n : Nat) (f : Int → Option Int) : Prop :=
 ∃ D : DataW Unit, w.ownsMap Tryz.prog 3 (plainElem Tryz.prog 3) b n D ∧ ∀ k, In64 k → Maps.has D (.int .i64 k) = (f k).isSome ∧ D.atKey (.int .i64 k) (.lit (.int .i64 0)) = .lit (.int .i64 ((f k).getD 0)) ∧ In64 ((f k).getD 0)
def updI (f : Int → Option Int) (k v : Int) : Int → Option Int := fun x => if x = k then some v else f x
section
variable {w w' : World} {b n : Nat} {f : Int → Option Int}
theorem MapI.made (w : World) : MapI (w.alloc (.map #[] 0)) w.heap.size 0 (fun _ => none) :=
 ⟨.map [], World.ownsMap_made _ _ _ _, fun k hk => ⟨rfl, rfl, by simp [In64]⟩⟩
theorem MapI.lt (h : MapI w b n f) : b < w.heap.size := let ⟨_, a, _⟩ := h; a.lt
theorem MapI.stay (h : MapI w b n f) (hb : w'.heap[b]? = w.heap[b]?) : MapI w' b n f := by
 obtain ⟨D, ⟨es, clock, h1, h2⟩, h3⟩ := h
 exact ⟨D, ⟨es, clock, hb.trans h1, h2⟩, h3⟩
theorem MapI.val (h : MapI w b n f) {k v : Int} (hk : In64 k) (hf : f k = some v) : In64 v := by
 obtain ⟨D, _, h3⟩ := h
 have := (h3 k hk).2.2
 rw [hf] at this
 exact this
theorem MapI.store (h : MapI w b n f) (hn : n < 1000000000) {k v : Int} (hk : In64 k) (hv : In64 v) : ∃ w', (Instr.mapUpdate 169 (.map (some b)) (.int .i64 k) (.int .i64 v)).run Tryz.prog w = .ok () w' ∧ MapI w' b (n + 1) (updI f k v) ∧ w.grownBy w' (some b) := by
 obtain ⟨D, h1, h2⟩ := h
 obtain ⟨w', r1, r2, r3⟩ := h1.update keyedI Tryz.underlying169 (by simp only [maxLen]; omega) (keyI hk) (plainElem_int (H := Unit) Tryz.underlying3 (wf64 hv))
 refine ⟨w', r1, ⟨_, r2, fun x hx => ?_⟩, r3⟩
 unfold updI
 by_cases e : x = k
 · subst e
   rw [if_pos rfl]
   exact ⟨Maps.has_put_same h1.isMap (kl_int x) _, Maps.atKey_put_same h1.isMap (kl_int x) _ _, hv⟩
 · rw [if_neg e]
   have hne : Lit.int .i64 x ≠ Lit.int .i64 k := fun h => e (by injection h)
   obtain ⟨a1, a2, a3⟩ := h2 x hx
   exact ⟨by rw [Maps.has_put_other hne]; exact a1, by rw [Maps.atKey_put_other hne]; exact a2, a3⟩
end
end Go.Proofs.YteeembildppgmaaGreat.Rd
namespace Go.Proofs.YteeembildppgmaaGreat.Rd
open Go.RowKit
set_option linter.unusedVariables false
set_option linter.unusedSimpArgs false
structure Sv where
 a : Option Addr
 n : Nat
 c : Nat
def Sv.v (s : Sv) : Value := .slice s.a s.n s.c
structure Ln where
 lsn : Int
 kind : Int
 txn : Int
 prev : Int
 next : Int
 page : Int
 off : Int
 count : Int
 sb : Sv
 sa : Sv
 st : Sv
 sd : Sv
structure Ln.ok (x : Ln) : Prop where
 lsn : In64 x.lsn
 kind : In64 x.kind
 txn : In64 x.txn
 prev : In64 x.prev
 next : In64 x.next
 page : In64 x.page
 off : In64 x.off
 count : In64 x.count
def recCells (x : Ln) : List Value := [.int .i64 x.kind, .int .i64 x.txn, .int .i64 x.prev, .int .i64 x.next, .int .i64 x.page, .int .i64 x.off, .slice x.sb.a x.sb.n x.sb.c, .slice x.sa.a x.sa.n x.sa.c, .slice x.st.a x.st.n x.st.c, .slice x.sd.a x.sd.n x.sd.c, .int .i64 x.count]
def lnCells (x : Ln) : List Value := .int .i64 x.lsn :: recCells x
def LinesAt (w : World) (a : Option Addr) (L : List Ln) : Prop := L.length ≤ 1000000 ∧ ∀ (i : Nat) (x : Ln), L[i]? = some x → x.ok ∧ ∃ b o, a = some ⟨b, o, none⟩ ∧ b < w.heap.size ∧ w.rangeAt b (o + i * 12) (lnCells x)
theorem LinesAt.below {w w' : World} {a : Option Addr} {L : List Ln} (h : LinesAt w a L) (hb : Below w.heap.size w w') : LinesAt w' a L :=
 ⟨h.1, fun i x hx => by
  obtain ⟨h0, b, o, h1, h2, h3⟩ := h.2 i x hx
  exact ⟨h0, b, o, h1, Nat.lt_of_lt_of_le h2 hb.size, fun j v hv => (hb.cell (p := ⟨b, o + i * 12 + j, none⟩) h2).trans (h3 j v hv)⟩⟩
theorem Tryz.size34n : (Tryz.prog.info? 88).map (·.size) = some 12 := by kernel_rfl
end Go.Proofs.YteeembildppgmaaGreat.Rd
namespace Go.Proofs.YteeembildppgmaaGreat.Rd
open Go.RowKit
set_option linter.unusedVariables false
set_option linter.unusedSimpArgs false
def DirtsAt (w : World) (a : Option Addr) (D : List (Int × Int)) : Prop := D.length ≤ 1000000 ∧ ∀ (i : Nat) (x : Int × Int), D[i]? = some x → In64 x.1 ∧ In64 x.2 ∧ ∃ b o, a = some ⟨b, o, none⟩ ∧ b < w.heap.size ∧ w.rangeAt b (o + i * 2) [.int .i64 x.1, .int .i64 x.2]
end Go.Proofs.YteeembildppgmaaGreat.Rd
namespace Go.Proofs.YteeembildppgmaaGreat.Rd
open Go.RowKit
set_option linter.unusedVariables false
set_option linter.unusedSimpArgs false
def intCells (l : List Int) : List Value := l.map (.int .i64)
structure Ask where
 g : Nat
 cb : Array Value
 f : Int → Int
 held : World → Prop
 stay : ∀ w w', held w → Below w.heap.size w w' → held w'
 enters : ∀ args w, (callFunc g args).run Tryz.prog w = .ok (.enter g args) w
 fin : ∀ p, In64 (f p)
 call : ∀ w p, held w → In64 p → Calls Tryz.prog g (#[.int .i64 p] ++ cb) w fun e w' => e = .returned (.int .i64 (f p)) ∧ Below w.heap.size w w'
def Ask.fv (A : Ask) : Value := .func (.func A.g) #[] A.cb
structure RedoIs (A : Ask) (w0 w : World) (R bd bh n m : Nat) (lg : Sv) (red : Value) (f h : Int → Option Int) (out : List Int) : Prop where
 head : w.heap[R]? = some (.cells #[.slice lg.a lg.n lg.c, .map none, .map (some bd), .int .i64 0, .func (.func A.g) #[] A.cb, .map (some bh), red, .slice none 0 0, .slice none 0 0] 197 (0, 0))
 md : MapI w bd n f
 mh : MapI w bh m h
 own : w.ownsRow 0 3 1 red out.length (intCells out)
 below : Below w0.heap.size w0 w
 r0 : w0.heap.size ≤ R
 d0 : w0.heap.size ≤ bd
 h0 : w0.heap.size ≤ bh
 o0 : ∀ k, red.ownBlock = some k → w0.heap.size ≤ k
 n1 : R ≠ bd
 n2 : R ≠ bh
 n3 : bd ≠ bh
 n4 : red.ownBlock ≠ some R
 n5 : red.ownBlock ≠ some bd
 n6 : red.ownBlock ≠ some bh
 ask : A.held w0
section
variable {A : Ask} {w0 w w' : World} {R bd bh n m : Nat} {lg : Sv} {red : Value} {f h : Int → Option Int} {out : List Int}
theorem RedoIs.c0 (x : RedoIs A w0 w R bd bh n m lg red f h out) : w.cell? ⟨R, 0, none⟩ = some (.slice lg.a lg.n lg.c) := by rw [cell_of_row w R 0 _ _ _ x.head]; rfl
theorem RedoIs.c2 (x : RedoIs A w0 w R bd bh n m lg red f h out) : w.cell? ⟨R, 2, none⟩ = some (.map (some bd)) := by rw [cell_of_row w R 2 _ _ _ x.head]; rfl
theorem RedoIs.c4 (x : RedoIs A w0 w R bd bh n m lg red f h out) : w.cell? ⟨R, 4, none⟩ = some (.func (.func A.g) #[] A.cb) := by rw [cell_of_row w R 4 _ _ _ x.head]; rfl
theorem RedoIs.c5 (x : RedoIs A w0 w R bd bh n m lg red f h out) : w.cell? ⟨R, 5, none⟩ = some (.map (some bh)) := by rw [cell_of_row w R 5 _ _ _ x.head]; rfl
theorem RedoIs.c6 (x : RedoIs A w0 w R bd bh n m lg red f h out) : w.cell? ⟨R, 6, none⟩ = some red := by rw [cell_of_row w R 6 _ _ _ x.head]; rfl
theorem RedoIs.lt (x : RedoIs A w0 w R bd bh n m lg red f h out) : R < w.heap.size := (Array.getElem?_eq_some_iff.1 x.head).1
theorem RedoIs.stayD (x : RedoIs A w0 w R bd bh n m lg red f h out) (hb : Below w.heap.size w w') : RedoIs A w0 w' R bd bh n m lg red f h out :=
 { x with
   head := (hb.block R x.lt).trans x.head
   md := x.md.stay (hb.block bd x.md.lt)
   mh := x.mh.stay (hb.block bh x.mh.lt)
   own := owns_of_block x.own (fun k hk => hb.block k (x.own.lt k hk).2)
   below := x.below.trans (hb.mono x.below.size) }
end
end Go.Proofs.YteeembildppgmaaGreat.Rd
