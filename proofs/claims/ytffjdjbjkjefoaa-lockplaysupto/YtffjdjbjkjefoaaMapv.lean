/- Maps of any keys and elements, as functions of the key. -/
import Derived.Test.YtffjdjbjkjefoaaSteps
import Derived.Maps.OwnSet
import Derived.Maps.OwnOps
import Derived.Maps.RangeWalk
import Derived.StringKeys
namespace Go.Proofs.Ytffjdjbjkjefoaa
open Go.RowKit Go.WideAt
set_option linter.unusedVariables false
set_option linter.unusedSimpArgs false

def In64 (k : Int) : Prop := -9223372036854775808 ≤ k ∧ k ≤ 9223372036854775807
theorem wf64 {k : Int} (h : In64 k) : (Lit.int .i64 k).wf = true := by
  have : (decide (IntKind.i64.min ≤ k) && decide (k ≤ IntKind.i64.max)) = true := by
    rw [Bool.and_eq_true, decide_eq_true_eq, decide_eq_true_eq]
    exact h
  exact this
theorem in64 {k : Int} (h : (Lit.int .i64 k).wf = true) : In64 k := by
  have : (decide (IntKind.i64.min ≤ k) && decide (k ≤ IntKind.i64.max)) = true := h
  rw [Bool.and_eq_true, decide_eq_true_eq, decide_eq_true_eq] at this
  exact this
theorem keyed3 : Maps.Keyed Try.prog 3 := Maps.int_keyed Try.underlying3
theorem keyed9 : Maps.Keyed Try.prog 9 := Maps.string_keyed Try.underlying9
theorem key3 {k : Int} (h : In64 k) : keyOf Try.prog 3 (Value.int .i64 k) = some (Lit.int .i64 k) := Maps.keyOf_int_mk Try.underlying3 (wf64 h)
theorem key9 {s : List UInt8} (h : s.length ≤ maxLen) : keyOf Try.prog 9 (Value.string (strOf s)) = some (Lit.string s) := by
  have := Go.WideMaps.keyOf_string_mk (P := Try.prog) Try.underlying9 (s := strOf s) (by show s.toArray.size ≤ maxLen; rw [List.size_toArray]; exact h)
  rw [this]
  simp [strOf]
theorem key3_inv {key : Value} {kl : Lit} (h : keyOf Try.prog 3 key = some kl) : ∃ x, key = .int .i64 x ∧ kl = .int .i64 x ∧ In64 x := by
  obtain ⟨x, h1, h2, h3⟩ := Maps.keyOf_int_inv Try.underlying3 h
  exact ⟨x, h1, h2, in64 h3⟩
theorem key9_inv {key : Value} {kl : Lit} (h : keyOf Try.prog 9 key = some kl) : ∃ s : List UInt8, key = .string (strOf s) ∧ kl = .string s ∧ s.length ≤ maxLen := by
  rw [keyOf_string Try.underlying9] at h
  have hu := Try.underlying9
  unfold mapKey at h
  rw [hu] at h
  cases key with
  | string s =>
    simp only at h
    split at h
    · rename_i hs
      cases h
      exact ⟨s.data.toList, by simp [strOf], rfl, by rw [Array.length_toList]; exact hs⟩
    · cases h
  | _ => cases (show (none : Option Lit) = some kl from h)
theorem kl_int (x : Int) : IsKeyLit (.int .i64 x) := by first | trivial | exact True.intro | simp [IsKeyLit]
theorem kl_str (s : List UInt8) : IsKeyLit (.string s) := by first | trivial | exact True.intro | simp [IsKeyLit]

/-- Whatever an element is: itself. -/
def rV (v : Value) : Option (DataW Value × List MemPlace) := some (.held v, [])
def Reads (D : DataW Value) (f : Lit → Option Value) : Prop := ∀ kl, IsKeyLit kl → Maps.has D kl = (f kl).isSome ∧ ∀ z, D.atKey kl (.held z) = .held ((f kl).getD z)
/-- Block b is a map of at most n entries: f. -/
def MapV (w : World) (k : TypeId) (b n : Nat) (f : Lit → Option Value) : Prop := ∃ D : DataW Value, w.ownsMap Try.prog k rV b n D ∧ Reads D f
/-- .. that is gone through by r; what is left is still to come. -/
def RngV (w : World) (k : TypeId) (b r n : Nat) (f : Lit → Option Value) (left : Lit → Bool) (cnt : Nat) : Prop := ∃ D : DataW Value, w.ranges Try.prog k rV b r n D left cnt ∧ Reads D f
/-- Whether two keys are the same. -/
def litDec (a b : Lit) : Decidable (a = b) := by
  cases a <;> cases b <;> first
    | (refine isTrue ?_; rfl; done)
    | (refine isFalse ?_; intro e; cases e; done)
    | (rename_i x y; refine if h : x = y then isTrue ?_ else isFalse ?_; (rw [h]); (intro e; injection e with e; exact h e))
    | (rename_i k n j m; refine if h : k = j ∧ n = m then isTrue ?_ else isFalse ?_; (rw [h.1, h.2]); (intro e; injection e with e1 e2; exact h ⟨e1, e2⟩))
def updV (f : Lit → Option Value) (k : Lit) (v : Value) : Lit → Option Value := fun x => @ite _ (x = k) (litDec x k) (some v) (f x)
def delV (f : Lit → Option Value) (k : Lit) : Lit → Option Value := fun x => @ite _ (x = k) (litDec x k) none (f x)
section
variable {w w' : World} {k t e : TypeId} {b n r : Nat} {f : Lit → Option Value} {left : Lit → Bool} {cnt : Nat}
theorem MapV.made (w : World) (k : TypeId) : MapV (w.alloc (.map #[] 0)) k w.heap.size 0 (fun _ => none) :=
  ⟨.map [], World.ownsMap_made _ _ _ _, fun k hk => ⟨rfl, fun _ => rfl⟩⟩
theorem MapV.lt (h : MapV w k b n f) : b < w.heap.size := let ⟨_, a, _⟩ := h; a.lt
theorem MapV.stay (h : MapV w k b n f) (hb : w'.heap[b]? = w.heap[b]?) : MapV w' k b n f := by
  obtain ⟨D, ⟨es, clock, h1, h2⟩, h3⟩ := h
  exact ⟨D, ⟨es, clock, hb.trans h1, h2⟩, h3⟩
theorem MapV.mono (h : MapV w k b n f) {m : Nat} (hm : n ≤ m) : MapV w k b m f := let ⟨D, a, c⟩ := h; ⟨D, a.mono hm, c⟩
theorem MapV.ext (h : MapV w k b n f) {g : Lit → Option Value} (hg : ∀ kl, IsKeyLit kl → f kl = g kl) : MapV w k b n g := by
  obtain ⟨D, a, c⟩ := h
  exact ⟨D, a, fun kl hk => by rw [← hg kl hk]; exact c kl hk⟩
theorem MapV.isMap (h : MapV w k b n f) : ∃ es c, w.heap[b]? = some (.map es c) := let ⟨_, ⟨es, c, h1, _⟩, _⟩ := h; ⟨es, c, h1⟩
theorem MapV.look (h : MapV w k b n f) (K : Maps.Keyed Try.prog k) (ht : Try.prog.underlying t = some (.map k e)) {z : Value} (hz : (zeroValue e).run Try.prog w = .ok z w) {key : Value} {kl : Lit} (hkey : keyOf Try.prog k key = some kl) :
    (Instr.lookup t (.map (some b)) key false).run Try.prog w = .ok ((f kl).getD z) w := by
  obtain ⟨D, h1, h2⟩ := h
  obtain ⟨v, ps, r1, r2⟩ := h1.lookup K ht hz (zd := .held z) (zp := []) rfl hkey
  have h3 : DataW.held v = .held ((f kl).getD z) := by
    rw [← (h2 kl (K.key hkey)).2 z]
    exact congrArg Prod.fst (Option.some.inj r2)
  have h3 := DataW.held.inj h3
  rw [r1, h3]
theorem MapV.look_ok (h : MapV w k b n f) (K : Maps.Keyed Try.prog k) (ht : Try.prog.underlying t = some (.map k e)) {z : Value} (hz : (zeroValue e).run Try.prog w = .ok z w) {key : Value} {kl : Lit} (hkey : keyOf Try.prog k key = some kl) :
    (Instr.lookup t (.map (some b)) key true).run Try.prog w = .ok (.tuple #[(f kl).getD z, .bool (f kl).isSome]) w := by
  obtain ⟨D, h1, h2⟩ := h
  obtain ⟨v, ps, r1, r2⟩ := h1.look_ok K ht hz (zd := .held z) (zp := []) rfl hkey
  have h3 : DataW.held v = .held ((f kl).getD z) := by
    rw [← (h2 kl (K.key hkey)).2 z]
    exact congrArg Prod.fst (Option.some.inj r2)
  have h3 := DataW.held.inj h3
  rw [r1, h3, (h2 kl (K.key hkey)).1]
theorem Reads.put {D : DataW Value} (h : Reads D f) (hD : Maps.IsMap D) {kl : Lit} (hk : IsKeyLit kl) (v : Value) : Reads (D.put kl (.held v)) (updV f kl v) := fun x hx => by
  unfold updV
  by_cases e : x = kl
  · subst e
    rw [if_pos rfl]
    exact ⟨Maps.has_put_same hD hk _, fun z => Maps.atKey_put_same hD hk _ _⟩
  · rw [if_neg e]
    exact ⟨by rw [Maps.has_put_other e]; exact (h x hx).1, fun z => by rw [Maps.atKey_put_other e]; exact (h x hx).2 z⟩
theorem Reads.del {D : DataW Value} (h : Reads D f) {kl : Lit} : Reads (D.del kl) (delV f kl) := fun x hx => by
  unfold delV
  by_cases e : x = kl
  · subst e
    rw [if_pos rfl]
    exact ⟨Maps.has_del_same, fun z => Maps.atKey_del_same _⟩
  · rw [if_neg e]
    exact ⟨by rw [Maps.has_del_other e]; exact (h x hx).1, fun z => by rw [Maps.atKey_del_other e]; exact (h x hx).2 z⟩
theorem MapV.store (h : MapV w k b n f) (K : Maps.Keyed Try.prog k) (ht : Try.prog.underlying t = some (.map k e)) (hn : n < maxLen) {key : Value} {kl : Lit} (hkey : keyOf Try.prog k key = some kl) (v : Value) :
    ∃ w', (Instr.mapUpdate t (.map (some b)) key v).run Try.prog w = .ok () w' ∧ MapV w' k b (n + 1) (updV f kl v) ∧ w.grownBy w' (some b) := by
  obtain ⟨D, h1, h2⟩ := h
  obtain ⟨w', r1, r2, r3⟩ := h1.update K ht hn hkey (val := v) (d := .held v) (ps := []) rfl
  exact ⟨w', r1, ⟨_, r2, h2.put h1.isMap (K.key hkey) v⟩, r3⟩
theorem MapV.drop (h : MapV w k b n f) (K : Maps.Keyed Try.prog k) (ht : Try.prog.underlying t = some (.map k e)) {key : Value} {kl : Lit} (hkey : keyOf Try.prog k key = some kl) (ty : TypeId) :
    ∃ w', (Builtin.delete_ #[t, k] ty #[.map (some b), key]).run Try.prog w = .ok (.tuple #[]) w' ∧ MapV w' k b n (delV f kl) ∧ w.grownBy w' (some b) := by
  obtain ⟨D, h1, h2⟩ := h
  obtain ⟨w', r1, r2, r3⟩ := h1.drop K ht hkey ty
  exact ⟨w', r1, ⟨_, r2, h2.del⟩, r3.grown⟩
/-- How many there are: none just if there is none. -/
theorem MapV.len (h : MapV w k b n f) (K : Maps.Keyed Try.prog k) (ht : Try.prog.underlying t = some (.map k e)) : ∃ s : Nat, s ≤ n ∧ (s = 0 ↔ ∀ kl, IsKeyLit kl → f kl = none) ∧ ∀ ty, (Builtin.len_ #[t] ty #[.map (some b)]).run Try.prog w = .ok (.int .i64 s) w := by
  obtain ⟨D, h1, h2⟩ := h
  refine ⟨Maps.size D, World.ownsMap.size_le h1, ?_, fun ty => h1.len ht ty⟩
  obtain ⟨es, rfl, hp, hk⟩ := h1.entries K
  constructor
  · intro h0 kl hkl
    have : es = [] := List.eq_nil_of_length_eq_zero h0
    have h3 := (h2 kl hkl).1
    rw [this] at h3
    cases hf : f kl with
    | none => rfl
    | some v => rw [hf] at h3; cases h3
  · intro h0
    cases es with
    | nil => rfl
    | cons p r =>
      have h3 := (h2 p.1 (hk p (by simp))).1
      rw [h0 p.1 (hk p (by simp)), Maps.has_eq] at h3
      simp [sameKey_self (hk p (by simp))] at h3
theorem RngV.map (h : RngV w k b r n f left cnt) : MapV w k b n f := let ⟨D, a, c⟩ := h; ⟨D, a.owns, c⟩
theorem RngV.lt (h : RngV w k b r n f left cnt) : r < w.heap.size := let ⟨D, a, c⟩ := h; a.lt
theorem RngV.ne (h : RngV w k b r n f left cnt) : r ≠ b := let ⟨D, a, c⟩ := h; a.ne
theorem RngV.left_eq (h : RngV w k b r n f left cnt) : w.rangeLeft b r = cnt := let ⟨D, a, c⟩ := h; a.left_eq
theorem RngV.stay (h : RngV w k b r n f left cnt) (hb : w'.heap[b]? = w.heap[b]?) (hr : w'.heap[r]? = w.heap[r]?) : RngV w' k b r n f left cnt := by
  obtain ⟨D, ⟨es, clock, since, seen, c0, h1, F, hs, hD, h2, rest⟩, c⟩ := h
  exact ⟨D, ⟨es, clock, since, seen, c0, hb.trans h1, F, hs, hD, hr.trans h2, rest⟩, c⟩
theorem RngV.isIter (h : RngV w k b r n f left cnt) : ∃ a c d e, w.heap[r]? = some (.mapIter a c d e) := by
  obtain ⟨D, ⟨es, clock, since, seen, c0, h1, F, hs, hD, h2, rest⟩, c⟩ := h
  exact ⟨_, _, _, _, h2⟩
theorem MapV.range (h : MapV w k b n f) (K : Maps.Keyed Try.prog k) (ht : Try.prog.underlying t = some (.map k e)) :
    ∃ w' left cnt, (Instr.range t (.map (some b))).run Try.prog w = .ok (.pointer (some ⟨w.heap.size, 0, none⟩)) w' ∧ RngV w' k b w.heap.size n f left cnt ∧ cnt ≤ n ∧ (∀ kl, IsKeyLit kl → left kl = (f kl).isSome) ∧ w.grownBy w' none ∧ w'.heap.size = w.heap.size + 1 := by
  obtain ⟨D, h1, h2⟩ := h
  obtain ⟨w', r1, r2, r3, r4⟩ := h1.range K ht
  exact ⟨w', _, _, r1, ⟨D, r2, h2⟩, h1.size_le, fun kl hk => (h2 kl hk).1, r3, r4⟩
theorem RngV.next (h : RngV w k b r n f left cnt) (K : Maps.Keyed Try.prog k) (ty : TypeId) :
    (cnt = 0 ∧ (∀ kl, left kl = false) ∧ (Instr.next (.pointer (some ⟨r, 0, none⟩)) false ty).run Try.prog w = .ok (.tuple #[.bool false]) w) ∨
    ∃ key v kl w' cnt', keyOf Try.prog k key = some kl ∧ left kl = true ∧ f kl = some v ∧ (Instr.next (.pointer (some ⟨r, 0, none⟩)) false ty).run Try.prog w = .ok (.tuple #[.bool true, key, v]) w' ∧
      RngV w' k b r n f (fun x => left x && !x.sameKey kl) cnt' ∧ cnt' < cnt ∧ w.grownBy w' (some r) ∧ w'.heap.size = w.heap.size ∧ (Instr.entry (.pointer (some ⟨r, 0, none⟩))).run Try.prog w' = .ok (.tuple #[key, v]) w' := by
  obtain ⟨D, h1, h2⟩ := h
  rcases h1.next K ty with h0 | ⟨key, v, kl, y, w', cnt', a1, a2, a3, a4, a5, a6, a7, a8, a9, a10⟩
  · exact .inl h0
  · refine .inr ⟨key, v, kl, w', cnt', a1, a2, ?_, a5, ⟨D, a6, h2⟩, a7, a8, a9, a10⟩
    have hy : y.1 = .held v := (congrArg Prod.fst (Option.some.inj a3)).symm
    obtain ⟨b1, b2⟩ := h2 kl (K.key a1)
    cases hf : f kl with
    | none =>
      have b3 : Maps.has D kl = true := Maps.has_true_of_atKey a4
      rw [b1, hf] at b3
      cases b3
    | some u =>
      have b3 := b2 v
      rw [a4, hy, hf] at b3
      rw [DataW.held.inj b3]
      rfl
end
/-- Keys that are texts; keys that are ints. -/
def ofS (g : List UInt8 → Option Value) : Lit → Option Value
  | .string s => g s
  | _ => none
def ofI (g : Int → Option Value) : Lit → Option Value
  | .int .i64 x => g x
  | _ => none
theorem ofS_upd (g : List UInt8 → Option Value) (s : List UInt8) (v : Value) : updV (ofS g) (.string s) v = ofS (fun x => if x = s then some v else g x) := by
  funext kl
  unfold updV ofS
  cases kl <;> simp
theorem ofI_upd (g : Int → Option Value) (s : Int) (v : Value) : updV (ofI g) (.int .i64 s) v = ofI (fun x => if x = s then some v else g x) := by
  funext kl
  unfold updV ofI
  cases kl with
  | int q x => cases q <;> simp
  | _ => simp
theorem ofS_del (g : List UInt8 → Option Value) (s : List UInt8) : delV (ofS g) (.string s) = ofS (fun x => if x = s then none else g x) := by
  funext kl
  unfold delV ofS
  cases kl <;> simp
theorem ofI_del (g : Int → Option Value) (s : Int) : delV (ofI g) (.int .i64 s) = ofI (fun x => if x = s then none else g x) := by
  funext kl
  unfold delV ofI
  cases kl with
  | int q x => cases q <;> simp
  | _ => simp
theorem ofS_none : (fun _ => none) = ofS (fun _ => none) := by
  funext kl
  cases kl <;> rfl
theorem ofI_none : (fun _ => none) = ofI (fun _ => none) := by
  funext kl
  cases kl with
  | int q x => cases q <;> rfl
  | _ => rfl
theorem op_lookup (ρ : Operand → Value) (o : Oper) (t : TypeId) (x y : Operand) (c : Bool) (ho : o.op = .lookup t x y c) (px py v : Value) (hx : ρ x = px) (hy : ρ y = py) {P : Program} {w : World} (hr : (Instr.lookup t px py c).run P w = .ok v w) : (execOp ρ o).run P w = .ok (.value v) w := by
  unfold execOp
  simp [ho, hx, hy, hr, Result.andThen]
/-- A store into a map that comes up alone. -/
theorem step_map_to {P : Program} {ops : Array Oper} {Q : Exit → Act → World → Prop} {md : Region.Mode} {S : World → Prop} {o : Oper} {fuel : Nat} {listed : Array Bool} {a : Act} {w : World} (j : Nat) (w' : World) (hj : ops[j]? = some o)
    (hr : Region.ready md ops listed = [j]) (hd : o.dst = none) (hw : Region.wanted o (yielded ops a.tmps) = true) (t : TypeId) (x y z : Operand) (hop : o.op = Op.mapUpdate t x y z) (px py pz : Value) (hx : a.eval x = px) (hy : a.eval y = py) (hz : a.eval z = pz)
    (hrun : (Instr.mapUpdate t px py pz).run P w = .ok () w') (hS : S w') (h : wpAnyH P md ops Q S fuel (listed.setIfInBounds j true) a w') : wpAnyH P md ops Q S (fuel + 1) listed a w := by
  refine step_by j hj hr (fun K hK => ?_)
  rw [if_pos hw]
  unfold Oper.wp execOp
  simp only [hop, hx, hy, hz, Sem.run_bind, hrun, Result.andThen_ok, Sem.run_pure, Oper.upon_skip]
  rw [hd]
  exact hK _ _ hS h
/-! ### At a plain region's list -/
section
variable {P : Program} {w : World} {ops : Array Oper} {rest : List Oper} {o : Oper} {a : Act} {Q : Exit → Act → World → Prop}
theorem wpList_look (hg : o.guard = none) (t : TypeId) (m x : Operand) (c : Bool) (hop : o.op = Op.lookup t m x c) (px py v : Value) (hx : a.eval m = px) (hy : a.eval x = py) (hr : (Instr.lookup t px py c).run P w = .ok v w) (h : wpList P ops Q rest (a.put o.dst v) w) : wpList P ops Q (o :: rest) a w := by
  refine wpList_plain hg fun K' hK' => ?_
  unfold Oper.wp
  simp [execOp, hop, hx, hy, hr, Result.andThen]
  exact hK' _ _ h
theorem wpList_update (hg : o.guard = none) (t : TypeId) (m x v : Operand) (hop : o.op = Op.mapUpdate t m x v) (px py pv : Value) (w' : World) (hx : a.eval m = px) (hy : a.eval x = py) (hv : a.eval v = pv) (hr : (Instr.mapUpdate t px py pv).run P w = .ok () w') (h : wpList P ops Q rest (a.put o.dst undef) w') : wpList P ops Q (o :: rest) a w := by
  refine wpList_plain hg fun K' hK' => ?_
  unfold Oper.wp
  simp [execOp, hop, hx, hy, hv, hr, Result.andThen]
  exact hK' _ _ h
theorem wpList_rangeV (hg : o.guard = none) (t : TypeId) (m : Operand) (hop : o.op = Op.range t m) (px v : Value) (w' : World) (hx : a.eval m = px) (hr : (Instr.range t px).run P w = .ok v w') (h : wpList P ops Q rest (a.put o.dst v) w') : wpList P ops Q (o :: rest) a w := by
  refine wpList_plain hg fun K' hK' => ?_
  unfold Oper.wp
  simp [execOp, hop, hx, hr, Result.andThen]
  exact hK' _ _ h
theorem wpList_nextV (hg : o.guard = none) (it : Operand) (hop : o.op = Op.next it false) (px v : Value) (w' : World) (hx : a.eval it = px) (hr : (Instr.next px false o.type).run P w = .ok v w') (h : wpList P ops Q rest (a.put o.dst v) w') : wpList P ops Q (o :: rest) a w := by
  refine wpList_plain hg fun K' hK' => ?_
  unfold Oper.wp
  simp [execOp, hop, hx, hr, Result.andThen]
  exact hK' _ _ h
end
theorem zero63 (w : World) : (zeroValue 63).run Try.prog w = .ok (.map none) w := by kernel_rfl
theorem zero3 (w : World) : (zeroValue 3).run Try.prog w = .ok (.int .i64 0) w := by kernel_rfl
theorem zero61 (w : World) : (zeroValue 61).run Try.prog w = .ok (.slice none 0 0) w := by kernel_rfl
end Go.Proofs.Ytffjdjbjkjefoaa
