/- A sector is laid over another among the lasting ones. -/
import Derived.Test.YtifoafiidplpiaaWrote
namespace Go.Proofs.Ytifoafiidplpiaa
open Go.RowKit
set_option linter.unusedVariables false
set_option linter.unusedSimpArgs false

/-- A store of many cells into the midst of a row that is owned whole. -/
theorem run_storeAt_in {P : Program} (w : World) (b o : Nat) (t ty : TypeId) (cur : Array Value) (cs : List Value) (hg : w.heap[b]? = some (.cells cur t (0, 0))) (hfit : o + cs.length ≤ cur.size) (hi : (P.info? ty).map (·.size) = some cs.length) (h1 : ∀ v ∈ cs, v.oneCell' = true) :
    (Instr.storeAt ty (.pointer (some ⟨b, o, none⟩)) (.agg cs.toArray)).run P w = .ok () (w.setRow b (cur.toList.take o ++ cs ++ cur.toList.drop (o + cs.length)).toArray) := by
  have hr := run_storeCells_at P b o t cs 0 cur w hg (by simpa using hfit) h1
  simp only [Nat.add_zero] at hr
  cases hq : P.info? ty with
  | none => simp [hq] at hi
  | some i =>
    have hs : cs.length = i.size := by simp [hq] at hi; omega
    simp [Instr.storeAt, Instr.sureAddr, storeVar, sizeOf, typeInfo, hq, Value.cells, hs]
    rw [hs, List.append_assoc] at hr
    exact hr

theorem DevIs.lay {w : World} {p lb lcap : Nat} {fp : List Nat} {D : Dv} {cv : Value} (h : DevIs w p fp D lb lcap cv) (i : Nat) (hi : i < D.L.length) (s : List UInt8) (hs : s.length = 128) :
    ∃ w', (Instr.storeAt 101 (.pointer (some ⟨lb, i * 128, none⟩)) (.agg (secCells s).toArray)).run Try.prog w = .ok () w' ∧ DevIs w' p fp { D with L := D.L.set i s } lb lcap cv ∧ Off [lb] w w' := by
  have hl : (secCells s).length = 128 := by rw [length_secCells]; exact hs
  rcases h.row.2 with ⟨h1, _⟩ | ⟨g, cap, cur, h1, _, hg, hnc, hcm, hcs, htake⟩
  · cases h1
  · injection h1 with h1 h2 h3
    injection h1 with h1
    injection h1 with h1
    subst h1 h3
    have hrl : (rowCells D.L).length = D.L.length * 128 := h.row.1
    have hfit : i * 128 + (secCells s).length ≤ cur.size := by
      rw [hl, hcs]
      have : (i + 1) * 128 ≤ lcap * 128 := Nat.mul_le_mul_right _ (by omega)
      omega
    refine ⟨_, run_storeAt_in w lb (i * 128) 101 101 cur (secCells s) hg hfit (Try.size101 hl) (one_secCells s), ?_, (Off.refl _ w).setRow _ _ (.inl (by simp))⟩
    have hheap := setRow_heap w lb cur (cur.toList.take (i * 128) ++ secCells s ++ cur.toList.drop (i * 128 + (secCells s).length)).toArray 101 (0, 0) hg
    have hp := setRow_other w lb p (cur.toList.take (i * 128) ++ secCells s ++ cur.toList.drop (i * 128 + (secCells s).length)).toArray h.ne1
    have hsplit : cur.toList = rowCells D.L ++ cur.toList.drop (D.L.length * 128) := by rw [← htake, List.take_append_drop]
    have hspl : cur.toList.take (i * 128) ++ secCells s ++ cur.toList.drop (i * 128 + (secCells s).length) = rowCells (D.L.set i s) ++ cur.toList.drop (D.L.length * 128) := by
      have h2 : i * 128 + 128 ≤ D.L.length * 128 := by
        have : (i + 1) * 128 ≤ D.L.length * 128 := Nat.mul_le_mul_right _ (by omega)
        omega
      have hfs := flat_set 128 (D.L.map secCells) h.wf.rows i (by simpa using hi) (secCells s) hl
      have e1 : cur.toList.take (i * 128) = (rowCells D.L).take (i * 128) := by
        rw [← htake, List.take_take, Nat.min_eq_left (by omega)]
      have e2 : cur.toList.drop (i * 128 + (secCells s).length) = (rowCells D.L).drop (i * 128 + (secCells s).length) ++ cur.toList.drop (D.L.length * 128) := by
        conv => lhs; rw [hsplit]
        rw [List.drop_append_of_le_length (by rw [hrl, hl]; exact h2)]
      rw [e1, e2, ← List.append_assoc]
      congr 1
      unfold rowCells
      rw [hfs, List.map_set]
    rw [hspl] at hheap hp ⊢
    have hlen : (D.L.set i s).length = D.L.length := List.length_set
    have hwf : Dv.wf { D with L := D.L.set i s } := by
      refine ⟨?_, ?_, ?_, ?_, h.wf.lo, h.wf.hi⟩
      · show 1 ≤ (D.L.set i s).length; rw [hlen]; exact h.wf.pos
      · show (D.L.set i s).length ≤ 8192; rw [hlen]; exact h.wf.max
      · intro x hx
        rcases List.mem_or_eq_of_mem_set hx with hx | rfl
        · exact h.wf.sec x hx
        · exact hs
      · intro x hx
        show x.1 < (D.L.set i s).length ∧ _
        rw [hlen]; exact h.wf.ent x hx
    have hrl2 : (rowCells (D.L.set i s)).length = D.L.length * 128 := by
      unfold rowCells
      rw [flat_length 128 _ hwf.rows, List.length_map, hlen]
    refine ⟨hwf, ?_, ?_, ?_, h.ne1, h.ne2, h.ne3, h.inP, h.inL, h.inC, fun k hk => by simpa using h.lim k hk⟩
    · show _ = some (Obj.cells #[.slice _ (D.L.set i s).length _, _, _, _, _] _ _)
      rw [hlen]
      exact hp.trans h.head
    · show World.ownsRow _ 0 101 128 (.slice _ (D.L.set i s).length _) (D.L.set i s).length _
      rw [hlen]
      refine ⟨hrl2, .inr ⟨lb, lcap, _, rfl, Nat.zero_le _, hheap, hnc, hcm, ?_, ?_⟩⟩
      · have hc2 : cur.toList.length = lcap * 128 := by rw [Array.length_toList]; exact hcs
        have : (rowCells (D.L.set i s) ++ cur.toList.drop (D.L.length * 128)).length = lcap * 128 := by
          rw [List.length_append, hrl2, List.length_drop, hc2]
          have : D.L.length * 128 ≤ lcap * 128 := Nat.mul_le_mul_right _ hnc
          omega
        simpa using this
      · show List.take (D.L.length * 128) (rowCells (D.L.set i s) ++ cur.toList.drop (D.L.length * 128)) = _
        rw [List.take_append_of_le_length (by omega), List.take_of_length_le (by omega)]
    · exact owns_of_block h.cache (fun k hk => setRow_other w lb k _ (fun e => h.ne3 (by rw [hk, e])))
/-- The cache is dropped. -/
theorem DevIs.drop {w : World} {p lb lcap : Nat} {fp : List Nat} {D : Dv} {cv : Value} (h : DevIs w p fp D lb lcap cv) : DevIs (w.setCell ⟨p, 1, none⟩ (.slice none 0 0)) p fp { D with W := [] } lb lcap (.slice none 0 0) := by
  have hh := heap_setCell_same w p 1 _ _ (.slice none 0 0) h.head
  refine ⟨⟨h.wf.pos, h.wf.max, h.wf.sec, fun x hx => by simp at hx, h.wf.lo, h.wf.hi⟩, hh, ?_, World.ownsRow_nil _ _ _ _, h.ne1, by simp [Value.ownBlock], by simp [Value.ownBlock], h.inP, h.inL, fun k hk => by simp [Value.ownBlock] at hk, fun k hk => by simpa [World.setCell] using h.lim k hk⟩
  exact owns_of_block h.row (fun k hk => heap_setCell_other w _ k _ (fun e => h.ne1 (by simp [Value.ownBlock] at hk e; omega)))
theorem run_load68 (w : World) (p : Nat) (v : Value) (h : w.cell? ⟨p, 0, none⟩ = some v) : (Instr.loadAt 68 (.pointer (some ⟨p, 0, none⟩))).run Try.prog w = .ok v w := by
  have hu := Try.underlying68
  simp [go_sem, h]
theorem run_load3 (w : World) (p o : Nat) (v : Value) (h : w.cell? ⟨p, o, none⟩ = some v) : (Instr.loadAt 3 (.pointer (some ⟨p, o, none⟩))).run Try.prog w = .ok v w := by
  have hu := Try.underlying3
  simp [go_sem, h]
theorem run_index68 (w : World) (lb n cap i : Nat) (h : i < n) : (Instr.indexAt 68 (.slice (some ⟨lb, 0, none⟩) n cap) (.int .i64 (i : Int))).run Try.prog w = .ok (.pointer (some ⟨lb, i * 128, none⟩)) w := by
  have hu := Try.underlying68
  have hs : (Try.prog.info? 101).map (·.size) = some 128 := by kernel_rfl
  obtain ⟨t, ht, hz⟩ := Option.map_eq_some_iff.1 hs
  have hlt : (i : Int) < n := by omega
  simp [Instr.indexAt, asIntOf, run_underlying hu, sizeOf, typeInfo, ht, hz, hlt, Addr.add_mid]
  intro h2
  omega
theorem op_load (ρ : Operand → Value) (o : Oper) (t : TypeId) (x : Operand) (ho : o.op = .load t x) (px v : Value) (hx : ρ x = px) {P : Program} {w : World} (hr : (Instr.loadAt t px).run P w = .ok v w) : (execOp ρ o).run P w = .ok (.value v) w := by
  unfold execOp
  simp only [ho, hx, Sem.run_bind, hr, Result.andThen_ok, Sem.run_pure]
theorem op_index (ρ : Operand → Value) (o : Oper) (t : TypeId) (x y : Operand) (ho : o.op = .indexAddr t x y) (px py v : Value) (hx : ρ x = px) (hy : ρ y = py) {P : Program} {w : World} (hr : (Instr.indexAt t px py).run P w = .ok v w) : (execOp ρ o).run P w = .ok (.value v) w := by
  unfold execOp
  simp only [ho, hx, hy, Sem.run_bind, hr, Result.andThen_ok, Sem.run_pure]
end Go.Proofs.Ytifoafiidplpiaa
