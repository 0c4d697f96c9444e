/- Held, the document's way. -/
import Derived.Test.YtffjdjbjkjefoaaRps
namespace Go.Proofs.Ytffjdjbjkjefoaa
open Go.RowKit Go.WideAt
set_option linter.unusedVariables false
set_option linter.unusedSimpArgs false

theorem op_gtr9 (ρ : Operand → Value) (o : Oper) (x y : Operand) (tt : TypeId) (ho : o.op = .binOp .gtr 9 x y tt) (a b : List UInt8) (hx : ρ x = .string (strOf a)) (hy : ρ y = .string (strOf b)) (r : Bool) (hr : blt b a = r) {w : World} : (execOp ρ o).run Try.prog w = .ok (.value (.bool r)) w := by
  have hu := Try.underlying9
  have he := gtr_eq a b
  rw [hr] at he
  unfold execOp
  simp only [ho, hx, hy]
  simp [go_sem, hu]
  simpa using he
theorem op_gtr3 (ρ : Operand → Value) (o : Oper) (x y : Operand) (tt : TypeId) (ho : o.op = .binOp .gtr 3 x y tt) (n m : Int) (hx : ρ x = .int .i64 n) (hy : ρ y = .int .i64 m) (b : Bool) (hb : decide (m < n) = b) {w : World} : (execOp ρ o).run Try.prog w = .ok (.value (.bool b)) w := by
  have hu := Try.underlying3
  unfold execOp
  simp only [ho, hx, hy]
  simp [go_sem, hu, hb]
theorem op_sub3 (ρ : Operand → Value) (o : Oper) (x y : Operand) (tt : TypeId) (ho : o.op = .binOp .sub 3 x y tt) (n m : Int) (hx : ρ x = .int .i64 n) (hy : ρ y = .int .i64 m) (b : Int) (hb : IntKind.i64.wrap (n - m) = b) {w : World} : (execOp ρ o).run Try.prog w = .ok (.value (.int .i64 b)) w := by
  have hu := Try.underlying3
  unfold execOp
  simp only [ho, hx, hy]
  simp [go_sem, hu, hb]
theorem run_append_want {w : World} {base : Nat} {v : Value} {n : Nat} {xs : List Value} (h : w.ownsRow base 50 2 v n xs) (ty g : Nat) (a b : Value) (ha : a.oneCell' = true) (hb' : b.oneCell' = true) (hg : w.heap[g]? = some (.cells #[a, b] 50 (0, 0))) (hn : n < 5000000000000) (hb : base ≤ w.heap.size) :
    ∃ v' w', (Builtin.append_ #[45, 45] ty #[v, .slice (some ⟨g, 0, none⟩) 1 1]).run Try.prog w = .ok v' w' ∧ w'.ownsRow base 50 2 v' (n + 1) (xs ++ [a, b]) ∧ w.grownBy w' v.ownBlock ∧ (v'.ownBlock = v.ownBlock ∨ v'.ownBlock = some w.heap.size) := by
  obtain ⟨i, hi, hz⟩ := Option.map_eq_some_iff.1 Try.info50
  simp only [Prod.mk.injEq] at hz
  obtain ⟨hz, hsize, hby⟩ := hz
  have hmax : n + 1 ≤ maxLen := by simp only [maxLen]; omega
  obtain ⟨v', w', h1, h2, h3, h4, h5⟩ := run_append_own_at (P := Try.prog) w base 45 ty 50 i _ 2 24 Try.underlying45 hi hz hsize hby rfl (by omega) v n xs h ⟨g, 0, none⟩ 1 1 [a, b] (by simp) (fun j x hx => by
    match j, hx with
    | 0, hx =>
      simp at hx
      subst hx
      rw [Addr.add_mid, cell_row hg]
      rfl
    | 1, hx =>
      simp at hx
      subst hx
      rw [Addr.add_mid, cell_row hg]
      rfl
    | j + 2, hx => simp at hx) (by intro x hx; simp at hx; rcases hx with rfl | rfl <;> assumption) hmax (by omega) hb
  exact ⟨v', w', h1, h2, h3, h5⟩
theorem op_alloc50 (ρ : Operand → Value) (o : Oper) (ho : o.op = .alloc 50) (w : World) : (execOp ρ o).run Try.prog w = .ok (.value (.pointer (some ⟨w.heap.size, 0, none⟩))) (w.alloc (.cells #[.string ⟨#[]⟩, .int .i64 0] 50)) := by
  unfold execOp
  rw [ho]
  kernel_rfl
theorem ins_up {F : List Wn} {x : Wn} {p : Nat} (hs : F.Pairwise fun a b => blt a.1 b.1 = true) (hp : p ≤ F.length) (h1 : ∀ y ∈ F.drop p, blt x.1 y.1 = true) (h2 : p = 0 ∨ ∃ y, F[p - 1]? = some y ∧ blt x.1 y.1 = false) (hne : ∀ y ∈ F, y.1 ≠ x.1) : (F.take p ++ x :: F.drop p).Pairwise fun a b => blt a.1 b.1 = true := by
  rw [List.pairwise_append, List.pairwise_cons]
  refine ⟨hs.sublist (List.take_sublist _ _), ⟨h1, hs.sublist (List.drop_sublist _ _)⟩, fun a ha b hb => ?_⟩
  have hax : blt a.1 x.1 = true := by
    rcases h2 with h2 | ⟨y, hy, hy2⟩
    · subst h2; simp at ha
    · have hyF : y ∈ F := List.mem_of_getElem? hy
      have hyx : blt y.1 x.1 = true := by
        cases h : blt y.1 x.1 with
        | true => rfl
        | false => exact absurd (blt_total h hy2) (hne y hyF)
      obtain ⟨i, hi, e⟩ := List.mem_iff_getElem.1 ha
      rw [List.length_take] at hi
      rw [List.getElem_take] at e
      obtain ⟨hpl, e2⟩ := List.getElem?_eq_some_iff.1 hy
      rcases Nat.lt_or_ge i (p - 1) with hlt | hge
      · have := List.pairwise_iff_getElem.1 hs i (p - 1) (by omega) hpl hlt
        rw [e, e2] at this
        exact blt_trans this hyx
      · have : i = p - 1 := by omega
        subst this
        rw [← e, e2]
        exact hyx
  rcases List.mem_cons.1 hb with rfl | hb
  · exact hax
  · exact blt_trans hax (h1 b hb)
theorem ins_mem {F : List Wn} {x : Wn} {p : Nat} (y : Wn) : y ∈ F.take p ++ x :: F.drop p ↔ y = x ∨ y ∈ F := by
  have h := List.take_append_drop p F
  constructor
  · intro hy
    rcases List.mem_append.1 hy with h1 | h1
    · exact .inr (List.mem_of_mem_take h1)
    · rcases List.mem_cons.1 h1 with h1 | h1
      · exact .inl h1
      · exact .inr (List.mem_of_mem_drop h1)
  · rintro (h1 | h1)
    · simp [h1]
    · rw [← h] at h1
      rcases List.mem_append.1 h1 with h2 | h2
      · simp [h2]
      · simp [h2]
theorem ins_back {F : List Wn} {j y : Wn} {p : Nat} (hy : F[p]? = some y) : (F.take (p + 1) ++ j :: F.drop (p + 1)).set (p + 1) y = F.take p ++ y :: F.drop p := by
  obtain ⟨hl, rfl⟩ := List.getElem?_eq_some_iff.1 hy
  have e1 : (F.take (p + 1)).length = p + 1 := by rw [List.length_take]; omega
  have e : (F.take (p + 1) ++ j :: F.drop (p + 1)).set (p + 1) F[p] = F.take (p + 1) ++ F[p] :: F.drop (p + 1) := by
    rw [List.set_append, if_neg (by omega), e1]
    simp
  rw [e, List.take_succ_eq_append_getElem hl, List.append_assoc, List.singleton_append, ← List.drop_eq_getElem_cons hl]
theorem ins_end {F : List Wn} {j x : Wn} {p : Nat} (hp : p ≤ F.length) : (F.take p ++ j :: F.drop p).set p x = F.take p ++ x :: F.drop p := by
  have e1 : (F.take p).length = p := by rw [List.length_take]; omega
  rw [List.set_append, if_neg (by omega), e1]
  simp
theorem ins_len {F : List Wn} {j : Wn} {p : Nat} (hp : p ≤ F.length) : (F.take p ++ j :: F.drop p).length = F.length + 1 := by
  simp
  omega
/-- What is told of the first k. -/
structure HsIs (hs : List Ht) (id : Int) (F : List Wn) : Prop where
  up : F.Pairwise fun a b => blt a.1 b.1 = true
  iff : ∀ s md, (s, md) ∈ F ↔ (id, s, md) ∈ hs
  len : F.length ≤ hs.length
end Go.Proofs.Ytffjdjbjkjefoaa
