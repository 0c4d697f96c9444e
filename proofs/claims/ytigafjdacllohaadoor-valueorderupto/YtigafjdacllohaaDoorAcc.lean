/- Bytes that a call lays one behind the other; numbers turned. -/
import Derived.Test.YtigafjdacllohaaDoorSteps
import Derived.Deep.CutBlock
import Derived.Laws.BitsAllLaws
namespace Go.Proofs.YtigafjdacllohaaDoor
open Go.RowKit
set_option linter.unusedVariables false
set_option linter.unusedSimpArgs false

structure Bts (w0 w : World) (v : Value) (X : List UInt8) : Prop where
  below : Below w0.heap.size w0 w
  own : w.ownsRow w0.heap.size 5 1 v X.length (secCells X)
theorem Bts.belowW {w0 w w' : World} {v : Value} {X : List UInt8} (h : Bts w0 w v X) (hb : Below w.heap.size w w') : Bts w0 w' v X :=
  ⟨h.below.trans (hb.mono h.below.size), owns_below h.own hb (Nat.le_refl _)⟩
theorem Bts.sl {w0 w : World} {v : Value} {X : List UInt8} (h : Bts w0 w v X) : Sl w v X := Row.of_owns h.own
theorem Bts.nil {w0 w : World} (h : Below w0.heap.size w0 w) : Bts w0 w (.slice none 0 0) [] := ⟨h, World.ownsRow_nil _ _ _ _⟩
theorem Bts.alloc {w0 w : World} {v : Value} {X : List UInt8} (h : Bts w0 w v X) (o : Obj) : Bts w0 (w.alloc o) v X := h.belowW ((Below.refl _ _).alloc (Nat.le_refl _) _)
theorem Bts.drewN {w0 w : World} {v : Value} {X : List UInt8} (h : Bts w0 w v X) (m : Nat) : Bts w0 (w.drewN m) v X := h.belowW (below_drewN _ _ m)
theorem grown_below {w0 w w' : World} {u : Value} {n : Nat} {xs : List Value} {e : TypeId} {sz : Nat} (hb : Below w0.heap.size w0 w) (hu : w.ownsRow w0.heap.size e sz u n xs) (hg : w.grownBy w' u.ownBlock) : Below w0.heap.size w0 w' := by
  have hOff : Off (match u.ownBlock with | some k => [k] | none => []) w w' := (Off.refl _ _).grown hg (fun k hk => .inl (by rw [hk]; simp))
  refine hb.trans (hOff.below hb.size (fun k hk => ?_))
  cases hv : u.ownBlock with
  | none => rw [hv] at hk; simp at hk
  | some j =>
    rw [hv] at hk
    simp at hk
    subst hk
    exact (hu.lt k hv).1
theorem Bts.grow {w0 w w' : World} {u u' : Value} {A C : List UInt8} (h : Bts w0 w u A) (ho : w'.ownsRow w0.heap.size 5 1 u' (A.length + C.length) (secCells A ++ secCells C)) (hg : w.grownBy w' u.ownBlock) : Bts w0 w' u' (A ++ C) :=
  ⟨grown_below h.below h.own hg, by rw [List.length_append, secCells_append]; exact ho⟩
theorem grown_rec {w w' : World} {base rb n : Nat} {u : Value} {xs : List Value} {C : Array Value} {t e : TypeId} {sz : Nat} {fr : Nat × Nat} (hu : w.ownsRow base e sz u n xs) (hg : w.grownBy w' u.ownBlock) (hr : w.heap[rb]? = some (.cells C t fr)) (ht : t ≠ e) : w'.heap[rb]? = some (.cells C t fr) :=
  (hg.block rb (lt_of_heap hr) (fun e => owns_ne hu hr ht e.symm)).trans hr
/-- Blocks of other types stay. -/
def Oth (w w' : World) : Prop := ∀ (b : Nat) (C : Array Value) (t : TypeId) (fr : Nat × Nat), t ≠ 5 → w.heap[b]? = some (.cells C t fr) → w'.heap[b]? = some (.cells C t fr)
theorem Oth.refl (w : World) : Oth w w := fun _ _ _ _ _ h => h
theorem Oth.trans {a b c : World} (h : Oth a b) (k : Oth b c) : Oth a c := fun q C t fr ht hq => k q C t fr ht (h q C t fr ht hq)
theorem Oth.below {a b c : World} (h : Oth a b) (k : Below b.heap.size b c) : Oth a c := fun q C t fr ht hq => have := h q C t fr ht hq; (k.block q (lt_of_heap this)).trans this
theorem Oth.alloc {a b : World} (h : Oth a b) (o : Obj) : Oth a (b.alloc o) := h.below ((Below.refl _ _).alloc (Nat.le_refl _) _)
theorem Oth.grown {a b c : World} {base n : Nat} {u : Value} {xs : List Value} {sz : Nat} (h : Oth a b) (hu : b.ownsRow base 5 sz u n xs) (hg : b.grownBy c u.ownBlock) : Oth a c := fun q C t fr ht hq => grown_rec hu hg (h q C t fr ht hq) ht
theorem wpList_append_bts {ops : Array Oper} {rest : List Oper} {o : Oper} {a : Act} {w : World} {Q : Exit → Act → World → Prop}
    (hg : o.guard = none) (s x : Operand) (hop : o.op = Op.call { callee := Callee.builtin Builtin.append, args := #[s, x], argTypes := #[32, 32] })
    (w0 : World) (u y : Value) (A C : List UInt8) (hs : a.eval s = u) (hy : a.eval x = y) (h : Bts w0 w u A) (hx : Sl w y C) (hl : A.length + C.length ≤ 1099511627776)
    (hK : ∀ u' w', Bts w0 w' u' (A ++ C) → w.grownBy w' u.ownBlock → wpList Tryd.prog ops Q rest (a.put o.dst u') w') :
    wpList Tryd.prog ops Q (o :: rest) a w := by
  refine wpList_append_row hg s x 32 hop w0.heap.size 5 (.int .u8 0) 1 1 Tryd.underlying32 Tryd.info5 rfl (by omega) u A.length (secCells A) y C.length (secCells C) hs hy h.own hx (by rw [length_secCells]; omega) (one_secCells C) (by omega) (by omega) h.below.size ?_
  intro v' w' r1 r2
  exact hK v' w' (h.grow r1 r2) r2
theorem build1 (x : Int) (w : World) : (Instr.buildSlice 32 1 #[(0, .int .u8 x)]).run Tryd.prog w = .ok (.slice (some ⟨w.heap.size, 0, none⟩) 1 1) (w.alloc (.cells #[.int .u8 x] 5)) := by kernel_rfl
theorem build2 (x y : Int) (w : World) : (Instr.buildSlice 32 2 #[(0, .int .u8 x), (1, .int .u8 y)]).run Tryd.prog w = .ok (.slice (some ⟨w.heap.size, 0, none⟩) 2 2) (w.alloc (.cells #[.int .u8 x, .int .u8 y] 5)) := by kernel_rfl
theorem sl1 (w : World) (c : UInt8) : Sl (w.alloc (.cells #[.int .u8 (c.toNat : Int)] 5)) (.slice (some ⟨w.heap.size, 0, none⟩) 1 1) [c] :=
  ⟨_, 1, rfl, Nat.le_refl _, by simp only [maxLen]; omega, fun _ => ⟨w.heap.size, 0, rfl, fun j u hu => by
    rw [Nat.zero_add, cell_row (heap_alloc_new w _)]
    simpa [secCells, bcell] using hu⟩⟩
theorem sl2 (w : World) (c d : UInt8) : Sl (w.alloc (.cells #[.int .u8 (c.toNat : Int), .int .u8 (d.toNat : Int)] 5)) (.slice (some ⟨w.heap.size, 0, none⟩) 2 2) [c, d] :=
  ⟨_, 2, rfl, Nat.le_refl _, by simp only [maxLen]; omega, fun _ => ⟨w.heap.size, 0, rfl, fun j u hu => by
    rw [Nat.zero_add, cell_row (heap_alloc_new w _)]
    simpa [secCells, bcell] using hu⟩⟩
/-- .. as a step of a region that draws. -/
theorem step_append_bts {ops : Array Oper} {Q : Exit → Act → World → Prop} {md : Region.Mode} {S : World → Prop} {o : Oper} {fuel : Nat} {listed : Array Bool} {a : Act} {w : World} (j dst : Nat) (hj : ops[j]? = some o)
    (hr : Region.ready md ops listed = [j]) (hdst : o.dst = some dst) (hgd : o.guard = none) (s x : Operand) (hop : o.op = Op.call { callee := Callee.builtin Builtin.append, args := #[s, x], argTypes := #[32, 32] })
    (w0 : World) (u y : Value) (A C : List UInt8) (hs : a.eval s = u) (hy : a.eval x = y) (h : Bts w0 w u A) (hx : Sl w y C) (hl : A.length + C.length ≤ 1099511627776)
    (hK : ∀ u' w', Bts w0 w' u' (A ++ C) → w.grownBy w' u.ownBlock → S w' ∧ wpAnyH Tryd.prog md ops Q S fuel (listed.setIfInBounds j true) (a.put (some dst) u') w') :
    wpAnyH Tryd.prog md ops Q S (fuel + 1) listed a w := by
  refine step_by j hj hr (fun K hK' => ?_)
  have hw : Region.wanted o (yielded ops a.tmps) = true := by simp [Region.wanted, hgd]
  rw [if_pos hw]
  obtain ⟨v', w', hrun, r1, r2⟩ := run_append_row (P := Tryd.prog) w w0.heap.size 32 o.type 5 (.int .u8 0) 1 1 Tryd.underlying32 Tryd.info5 rfl (by omega) u A.length (secCells A) h.own y C.length (secCells C) hx (by rw [length_secCells]; omega) (one_secCells C) (by omega) (by omega) h.below.size
  have hE : (execOp a.eval o).run Tryd.prog w = .ok (.value v') w' := by
    simp [execOp, hop, resolve, invoke, builtin, hs, hy, hrun, Result.andThen]
  unfold Oper.wp
  rw [hE, Oper.upon_value, hdst]
  have := hK v' w' (h.grow r1 r2) r2
  exact hK' _ _ this.1 this.2
theorem op_build1 (ρ : Operand → Value) (o : Oper) (x : Operand) (ho : o.op = .buildSlice 32 1 #[(0, x)]) (c : Int) (hx : ρ x = .int .u8 c) (w : World) : (execOp ρ o).run Tryd.prog w = .ok (.value (.slice (some ⟨w.heap.size, 0, none⟩) 1 1)) (w.alloc (.cells #[.int .u8 c] 5)) := by
  rw [buildSlice_op ρ o 32 1 0 x ho _ hx, Sem.run_bind, build1]
  rfl
/-! ### A number turned -/
theorem xor_top (a : Nat) (h : a < 18446744073709551616) : a ^^^ 9223372036854775808 = if a < 9223372036854775808 then a + 9223372036854775808 else a - 9223372036854775808 := by
  have h1 : (a ^^^ 9223372036854775808) % 2 ^ 63 = a % 2 ^ 63 := by
    rw [Nat.xor_mod_two_pow]
    simp
  have h2 : (a ^^^ 9223372036854775808) / 2 ^ 63 = (a / 2 ^ 63) ^^^ 1 := by
    rw [Nat.xor_div_two_pow]
  have hq : a / 2 ^ 63 = 0 ∨ a / 2 ^ 63 = 1 := by omega
  rcases hq with hq | hq
  · rw [hq] at h2
    have : (0 : Nat) ^^^ 1 = 1 := rfl
    rw [this] at h2
    rw [if_pos (by omega)]
    omega
  · rw [hq] at h2
    have : (1 : Nat) ^^^ 1 = 0 := rfl
    rw [this] at h2
    rw [if_neg (by omega)]
    omega
theorem xor_turn {n : Int} (h : -9223372036854775808 ≤ n ∧ n ≤ 9223372036854775807) : bits .xor .u64 (IntKind.u64.wrap n) 9223372036854775808 = ((turn n : Nat) : Int) := by
  have e : IntKind.u64.wrap n = (((n % 18446744073709551616).toNat : Nat) : Int) := by
    have : IntKind.u64.wrap n = n % 18446744073709551616 := by simp [IntKind.wrap, IntKind.signed, IntKind.bits]
    rw [this]
    omega
  rw [e]
  have hx := u64_xor_nat (n % 18446744073709551616).toNat 9223372036854775808 (by omega) (by omega)
  have e3 : ((9223372036854775808 : Nat) : Int) = 9223372036854775808 := rfl
  rw [e3] at hx
  rw [hx, xor_top _ (by omega)]
  unfold turn
  split <;> omega
theorem xor_back (u : Nat) (h : u < 18446744073709551616) : IntKind.i64.wrap (bits .xor .u64 (u : Int) 9223372036854775808) = back u := by
  have hx := u64_xor_nat u 9223372036854775808 h (by omega)
  have e3 : ((9223372036854775808 : Nat) : Int) = 9223372036854775808 := rfl
  rw [e3] at hx
  rw [hx, xor_top _ h, IntKind.wrap_i64]
  unfold back
  split <;> omega
end Go.Proofs.YtigafjdacllohaaDoor
