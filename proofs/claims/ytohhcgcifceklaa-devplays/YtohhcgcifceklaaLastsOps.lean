/- Single operations of the law DevLasts's inner loop. -/
import Derived.Test.YtohhcgcifceklaaLastsPlain
namespace Go.Proofs.Ytohhcgcifceklaa
open Go.RowKit
set_option linter.unusedVariables false
set_option linter.unusedSimpArgs false

/-- An operation whose guard says no is passed by. -/
theorem skip_to {P : Program} {ops : Array Oper} {Q : Exit → Act → World → Prop} {md : Region.Mode} {S : World → Prop} {oi : Oper} {fuel : Nat} {listed : Array Bool} {a : Act} {w : World} (i dst : Nat) (hi : ops[i]? = some oi)
    (hs : Region.noSelect ops = true) (hf : Region.free md ops listed i = true) (hr : (Region.ready md ops listed).contains i = true)
    (hQ : ∀ c a w, Q (.panic c) (a.put oi.dst undef) w → Q (.panic c) a w) (hd : oi.dst = some dst) (hw : Region.wanted oi (yielded ops a.tmps) = false) (hS : S w)
    (h : wpAnyH P md ops Q S fuel (listed.setIfInBounds i true) (a.put (some dst) undef) w) : wpAnyH P md ops Q S (fuel + 1) listed a w :=
  wpAnyH_take hi hs hf hr hQ (.inr ⟨hw, rfl⟩) hS (by rw [hd]; exact h)

theorem op_eql3 (ρ : Operand → Value) (o : Oper) (x y : Operand) (tt : TypeId) (ho : o.op = .binOp .eql 3 x y tt) (n m : Int) (hx : ρ x = .int .i64 n) (hy : ρ y = .int .i64 m) (b : Bool) (hb : (n == m) = b) {w : World} : (execOp ρ o).run Try.prog w = .ok (.value (.bool b)) w := by
  have hu := Try.underlying3
  unfold execOp
  simp only [ho, hx, hy]
  simp [go_sem, hu, hb]
theorem op_lss3 (ρ : Operand → Value) (o : Oper) (x y : Operand) (tt : TypeId) (ho : o.op = .binOp .lss 3 x y tt) (n m : Int) (hx : ρ x = .int .i64 n) (hy : ρ y = .int .i64 m) (b : Bool) (hb : decide (n < m) = b) {w : World} : (execOp ρ o).run Try.prog w = .ok (.value (.bool b)) w := by
  have hu := Try.underlying3
  unfold execOp
  simp only [ho, hx, hy]
  simp [go_sem, hu, hb]
theorem op_len (ρ : Operand → Value) (o : Oper) (x : Operand) (t e : TypeId) (hu : Try.prog.underlying t = some (.slice e)) (ho : o.op = .call { callee := .builtin .len, args := #[x], argTypes := #[t] }) (a : Option Addr) (n c : Nat) (hx : ρ x = .slice a n c) {w : World} : (execOp ρ o).run Try.prog w = .ok (.value (.int .i64 (n : Int))) w := by
  unfold execOp
  simp [ho, hx, go_sem, resolve, invoke, builtin, Builtin.len_, run_underlying hu, goInt]
theorem run_index31 (w : World) (b o n cap i : Nat) (h : i < n) : (Instr.indexAt 31 (.slice (some ⟨b, o, none⟩) n cap) (.int .i64 (i : Int))).run Try.prog w = .ok (.pointer (some ⟨b, o + i, none⟩)) w := by
  have hu := Try.underlying31
  have hs : (Try.prog.info? 4).map (·.size) = some 1 := by kernel_rfl
  obtain ⟨t, ht, hz⟩ := Option.map_eq_some_iff.1 hs
  have hlt : (i : Int) < n := by omega
  simp [Instr.indexAt, asIntOf, run_underlying hu, sizeOf, typeInfo, ht, hz, hlt, Addr.add_mid]
  intro h2
  omega
theorem run_load4 (w : World) (p o : Nat) (v : Value) (h : w.cell? ⟨p, o, none⟩ = some v) : (Instr.loadAt 4 (.pointer (some ⟨p, o, none⟩))).run Try.prog w = .ok v w := by
  have hu := Try.underlying4
  simp [go_sem, h]
theorem op_conv (ρ : Operand → Value) (o : Oper) (s d : TypeId) (x : Operand) (ho : o.op = .convert s d x) (px v : Value) (hx : ρ x = px) {P : Program} {w : World} (hr : (convert s d px).run P w = .ok v w) : (execOp ρ o).run P w = .ok (.value v) w := by
  unfold execOp
  simp only [ho, hx, Sem.run_bind, hr, Result.andThen_ok, Sem.run_pure]
theorem toList_strOf (bs : List UInt8) : (strOf bs).toList = bs := by
  rw [ByteArray.toList_eq]
  simp [strOf]
theorem beq_str (a b : List UInt8) : ((strOf a).toList == (strOf b).toList) = decide (a = b) := by
  rw [toList_strOf, toList_strOf, Bool.eq_iff_iff]
  simp
theorem op_eqlstr (ρ : Operand → Value) (o : Oper) (x y : Operand) (tt : TypeId) (ho : o.op = .binOp .eql 9 x y tt) (a b : List UInt8) (hx : ρ x = .string (strOf a)) (hy : ρ y = .string (strOf b)) {w : World} : (execOp ρ o).run Try.prog w = .ok (.value (.bool (decide (a = b)))) w := by
  have hu := Try.underlying9
  have he := beq_str a b
  unfold execOp
  simp only [ho, hx, hy]
  simp [go_sem, hu, he]
end Go.Proofs.Ytohhcgcifceklaa
