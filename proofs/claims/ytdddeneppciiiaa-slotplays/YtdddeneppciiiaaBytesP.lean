/- What 'bytes' lays, piece by piece: lists alone; and single operations. -/
import Derived.Test.YtdddeneppciiiaaSteps
namespace Go.Proofs.Ytdddeneppciiiaa
open Go.RowKit
set_option linter.unusedVariables false
set_option linter.unusedSimpArgs false

def zerosN (n : Nat) : List UInt8 := List.replicate n 0
def encN (L nx : Nat) (T : List Slt) : List UInt8 := be 2 L ++ be 4 nx ++ tab 504 T ++ List.replicate (504 - tsize T) 0 ++ body T
theorem tab_append : ∀ (T : List Slt) (low : Nat) (U : List Slt), tab low (T ++ U) = tab low T ++ tab (low - blen T) U
  | [], low, U => by simp [tab, blen]
  | none :: T, low, U => by simp only [List.cons_append, tab, tab_append T, List.append_assoc, blen, slen, Option.getD_none, List.length_nil, Nat.zero_add]
  | some d :: T, low, U => by simp only [List.cons_append, tab, tab_append T, List.append_assoc, blen, slen, Option.getD_some, Nat.sub_sub]
theorem body_snoc : ∀ (T : List Slt) (s : Slt), body (T ++ [s]) = s.getD [] ++ body T
  | [], s => by simp [body]
  | t :: T, s => by simp only [List.cons_append, body, body_snoc T, List.append_assoc]
theorem patch_app {A B C D : List UInt8} {o : Nat} (ho : o = A.length) (h : D.length = B.length) : patch (A ++ (B ++ C)) o D = A ++ (D ++ C) := by
  subst ho
  unfold patch
  rw [List.take_append_of_le_length (Nat.le_refl _), List.take_length, List.append_assoc, ← List.drop_drop]
  congr 2
  rw [List.drop_append_of_le_length (Nat.le_refl _), List.drop_length, List.nil_append, h, List.drop_append_of_le_length (Nat.le_refl _), List.drop_length, List.nil_append]
theorem length_encN {L nx : Nat} {T : List Slt} (h : tsize T ≤ 504) : (encN L nx T).length = 504 := by
  have : tsize T = 6 + 4 * T.length + blen T := rfl
  simp only [encN, List.length_append, length_be, length_tab, List.length_replicate, length_body]
  omega
theorem encN_nil (L nx : Nat) : patch (patch (zerosN 504) 0 (be 2 L)) 2 (be 4 nx) = encN L nx [] := by
  have e0 : zerosN 504 = [] ++ (List.replicate 2 0 ++ (List.replicate 4 0 ++ List.replicate 498 0)) := by
    unfold zerosN
    rw [List.nil_append, List.replicate_append_replicate, List.replicate_append_replicate]
  rw [e0, patch_app (o := 0) (by simp) (by simp [length_be]), List.nil_append, patch_app (by simp [length_be]) (by simp [length_be])]
  have e1 : 504 - tsize [] = 498 := rfl
  unfold encN
  rw [e1]
  simp only [tab, body, List.append_nil, List.append_assoc]
theorem encN_none {L nx : Nat} {T : List Slt} (h : tsize (T ++ [none]) ≤ 504) : encN L nx (T ++ [none]) = encN L nx T := by
  have e : tsize (T ++ [none]) = tsize T + 4 := by simp only [tsize, List.length_append, List.length_singleton, blen_append, blen, slen, Option.getD_none, List.length_nil]; omega
  unfold encN
  rw [tab_append, body_snoc, e, show 504 - tsize T = 2 + (2 + (504 - (tsize T + 4))) by omega, ← List.replicate_append_replicate, ← List.replicate_append_replicate]
  simp only [tab, be_zero, Option.getD_none, List.nil_append, List.append_nil, List.append_assoc]
theorem encN_some {L nx : Nat} {T : List Slt} {d : List UInt8} (h : tsize (T ++ [some d]) ≤ 504) :
    patch (patch (patch (encN L nx T) (504 - blen T - d.length) d) (6 + 4 * T.length) (be 2 (504 - blen T - d.length))) (8 + 4 * T.length) (be 2 (d.length + 1)) = encN L nx (T ++ [some d]) := by
  have e : tsize (T ++ [some d]) = tsize T + 4 + d.length := by simp only [tsize, List.length_append, List.length_singleton, blen_append, blen, slen, Option.getD_some]; omega
  have et : tsize T = 6 + 4 * T.length + blen T := rfl
  have hd1 : encN L nx T = (be 2 L ++ be 4 nx ++ tab 504 T ++ List.replicate 2 0 ++ List.replicate 2 0 ++ List.replicate (504 - tsize T - 4 - d.length) 0) ++ (List.replicate d.length 0 ++ body T) := by
    unfold encN
    rw [show 504 - tsize T = 2 + (2 + ((504 - tsize T - 4 - d.length) + d.length)) by omega, ← List.replicate_append_replicate, ← List.replicate_append_replicate, ← List.replicate_append_replicate]
    simp only [List.append_assoc, show 2 + (2 + ((504 - tsize T - 4 - d.length) + d.length)) - 4 - d.length = 504 - tsize T - 4 - d.length by omega]
  rw [hd1, patch_app (by simp only [List.length_append, length_be, length_tab, List.length_replicate]; omega) (by rw [List.length_replicate])]
  have hd2 : (be 2 L ++ be 4 nx ++ tab 504 T ++ List.replicate 2 0 ++ List.replicate 2 0 ++ List.replicate (504 - tsize T - 4 - d.length) 0) ++ (d ++ body T) = (be 2 L ++ be 4 nx ++ tab 504 T) ++ (List.replicate 2 0 ++ (List.replicate 2 0 ++ (List.replicate (504 - tsize T - 4 - d.length) 0 ++ (d ++ body T)))) := by simp only [List.append_assoc]
  rw [hd2, patch_app (by simp only [List.length_append, length_be, length_tab]) (by simp [length_be])]
  have hd3 : (be 2 L ++ be 4 nx ++ tab 504 T) ++ (be 2 (504 - blen T - d.length) ++ (List.replicate 2 0 ++ (List.replicate (504 - tsize T - 4 - d.length) 0 ++ (d ++ body T)))) = (be 2 L ++ be 4 nx ++ tab 504 T ++ be 2 (504 - blen T - d.length)) ++ (List.replicate 2 0 ++ (List.replicate (504 - tsize T - 4 - d.length) 0 ++ (d ++ body T))) := by simp only [List.append_assoc]
  rw [hd3, patch_app (by simp only [List.length_append, length_be, length_tab]; omega) (by simp [length_be])]
  unfold encN
  rw [tab_append, body_snoc, e, show 504 - (tsize T + 4 + d.length) = 504 - tsize T - 4 - d.length by omega]
  simp only [tab, Option.getD_some, List.append_assoc, List.append_nil, List.nil_append]

/-! ### Single operations -/
theorem op_slice (ρ : Operand → Value) (o : Oper) (t : TypeId) (x : Operand) (lo hi mx : Option Operand) (ho : o.op = .slice t x lo hi mx) (px v : Value) (plo phi : Option Value) (hx : ρ x = px) (hlo : lo.map ρ = plo) (hhi : hi.map ρ = phi) (hmx : mx.map ρ = none) {P : Program} {w : World} (hr : (Instr.sliceAt t px plo phi none).run P w = .ok v w) : (execOp ρ o).run P w = .ok (.value v) w := by
  unfold execOp
  simp only [ho, hx, hlo, hhi, hmx, Sem.run_bind, hr, Result.andThen_ok, Sem.run_pure]
theorem op_sub3 (ρ : Operand → Value) (o : Oper) (x y : Operand) (tt : TypeId) (ho : o.op = .binOp .sub 3 x y tt) (n m : Int) (hx : ρ x = .int .i64 n) (hy : ρ y = .int .i64 m) (b : Int) (hb : IntKind.i64.wrap (n - m) = b) {w : World} : (execOp ρ o).run Try.prog w = .ok (.value (.int .i64 b)) w := by
  have hu := Try.underlying3
  unfold execOp
  simp only [ho, hx, hy]
  simp [go_sem, hu, hb]
theorem wrapN {x : Int} {k : Nat} (h : x = (k : Int)) (hk : k < 9223372036854775808) : IntKind.i64.wrap x = (k : Int) := by rw [IntKind.wrap_i64]; omega
theorem made_same (c : Value) (m n : Nat) (hm : 0 < m) : madeCells (List.replicate m c).toArray n = (List.replicate n c).toArray := by
  apply Array.ext
  · simp [madeCells]
  · intro i h1 h2
    have hlt : i % m < m := Nat.mod_lt _ hm
    simp only [madeCells, Array.getElem_map, Array.getElem_range, List.size_toArray, List.length_replicate, List.getElem_toArray, List.getElem_replicate]
    rw [getElem!_pos _ _ (by simpa using hlt)]
    simp
theorem make504 (w : World) : (Instr.makeSlice 23 (.int .i64 504) (.int .i64 504)).run Try.prog w = .ok (.slice (some ⟨w.heap.size, 0, none⟩) 504 504) (w.alloc (.cells (secCells (zerosN 504)).toArray 5)) := by
  have h := run_make_row' (P := Try.prog) 23 5 (.int .u8 0) 1 Try.underlying23 Try.info5 rfl .i64 .i64 504 (by omega) (by omega) w
  have e : madeCells #[.int .u8 0] 504 = (secCells (zerosN 504)).toArray := by
    have := made_same (bcell 0) 1 504 (by omega)
    unfold zerosN secCells
    rw [List.map_replicate]
    exact this
  rw [e] at h
  exact h
theorem size5 : (Try.prog.info? 5).map (fun x => x.size) = some 1 := by kernel_rfl
/-! ### A copy into a block of bytes -/
theorem patch_cells (X : List UInt8) (off : Nat) (D : List UInt8) : (secCells X).take off ++ (secCells D ++ (secCells X).drop (off + (secCells D).length)) = secCells (patch X off D) := by
  simp [secCells, patch, List.map_append, List.append_assoc]
theorem Sl.src {w : World} {ao : Option Addr} {n c : Nat} {bs : List UInt8} (h : Sl w (.slice ao n c) bs) (hp : 0 < bs.length) : ∃ ad, ao = some ad ∧ ∀ j v, (secCells bs)[j]? = some v → w.cell? (ad.add j) = some v := by
  obtain ⟨ao', c', e, h1, h2, h3⟩ := h
  injection e with e1 e2 e3
  subst e1
  obtain ⟨g, o, ea, hr⟩ := h3 (fun h0 => by
    have : bs = [] := List.map_eq_nil_iff.1 h0
    rw [this] at hp; simp at hp)
  refine ⟨_, ea, fun j v hv => ?_⟩
  rw [Addr.add_mid]
  exact hr j v hv
theorem step_copy_to {ops : Array Oper} {Q : Exit → Act → World → Prop} {md : Region.Mode} {S : World → Prop} {o : Oper} {fuel : Nat} {listed : Array Bool} {a : Act} {w : World} (j dst : Nat) (hj : ops[j]? = some o)
    (hr : Region.ready md ops listed = [j]) (hdst : o.dst = some dst) (hgd : o.guard = none) (x y : Operand) (ho : o.op = .call { callee := .builtin .copy, args := #[x, y], argTypes := #[23, 23] })
    (dp sp : Option Addr) (m dc sc : Nat) (hx : a.eval x = .slice dp m dc) (hy : a.eval y = .slice sp m sc) (g off : Nat) (X D : List UInt8) (hg : Blk w g X) (hD : Sl w (.slice sp m sc) D) (hdp : 0 < m → dp = some ⟨g, off, none⟩) (hfit : off + m ≤ X.length)
    (hK : ∀ w', Blk w' g (patch X off D) → Off [g] w w' → w'.heap.size = w.heap.size → S w' ∧ wpAnyH Try.prog md ops Q S fuel (listed.setIfInBounds j true) (a.put (some dst) (.int .i64 (m : Int))) w') :
    wpAnyH Try.prog md ops Q S (fuel + 1) listed a w := by
  have hm : D.length = m := by
    obtain ⟨ao, c, e, _⟩ := hD
    injection e with e1 e2 e3
    exact e2.symm
  refine step_by j hj hr (fun K hK' => ?_)
  have hw : Region.wanted o (yielded ops a.tmps) = true := by simp [Region.wanted, hgd]
  rw [if_pos hw]
  by_cases h0 : m = 0
  · have hD0 : D = [] := List.eq_nil_of_length_eq_zero (by omega)
    have hrun := run_copy_none (P := Try.prog) w 23 23 o.type 5 dp sp m dc m sc Try.underlying23 size5 (by simp [h0])
    unfold Oper.wp
    simp [execOp, ho, resolve, invoke, builtin, hx, hy, hrun, Result.andThen]
    have := hK w (by rw [hD0, patch_nil]; exact hg) (Off.refl _ _) rfl
    rw [Oper.upon_value, hdst]
    rw [h0] at this
    exact hK' _ _ this.1 this.2
  · obtain ⟨ad, rfl, hsrc⟩ := hD.src (by omega)
    have hdp := hdp (by omega)
    subst hdp
    have hrun := run_copy_row (P := Try.prog) w 23 23 o.type 5 g off m dc ad m sc (secCells X).toArray 5 (secCells D) Try.underlying23 size5 hg (by rw [length_secCells, hm]; exact (Nat.min_self m).symm) hsrc (by simp [length_secCells, hm]; exact hfit) (one_secCells D)
    have hE : (execOp a.eval o).run Try.prog w = .ok (.value (goInt (secCells D).length)) (w.setRow g ((secCells X).toArray.toList.take off ++ (secCells D ++ (secCells X).toArray.toList.drop (off + (secCells D).length))).toArray) := by
      simp [execOp, ho, resolve, invoke, builtin, hx, hy, hrun, Result.andThen]
    unfold Oper.wp
    rw [hE, Oper.upon_value, hdst]
    have e1 : (secCells D).length = m := by rw [length_secCells, hm]
    have hB : Blk (w.setRow g ((secCells X).toArray.toList.take off ++ (secCells D ++ (secCells X).toArray.toList.drop (off + (secCells D).length))).toArray) g (patch X off D) := by
      unfold Blk
      rw [setRow_heap w g _ _ 5 _ hg, patch_cells]
    have hO : Off [g] w (w.setRow g ((secCells X).toArray.toList.take off ++ (secCells D ++ (secCells X).toArray.toList.drop (off + (secCells D).length))).toArray) :=
      ⟨rfl, rfl, rfl, by simp [World.setRow], fun k hk hn => setRow_other w g k _ (by intro e; subst e; exact hn (by simp))⟩
    have := hK _ hB hO (by simp [World.setRow])
    rw [← e1] at this
    exact hK' _ _ this.1 this.2
theorem Off.cell {fp : List Nat} {w w' : World} (h : Off fp w w') {p : Addr} {v : Value} (hp : p.block ∉ fp) (hc : w.cell? p = some v) : w'.cell? p = some v := by
  have hlt := World.block_lt_of_cell? w _ hc
  rw [← hc]
  unfold World.cell?
  rw [h.block _ hlt hp]
theorem run_cut_at (w : World) (g o n c l h k : Nat) (hk : h = l + k) (hh : h ≤ c) (hc : l < c) :
    (Instr.sliceAt 23 (.slice (some ⟨g, o, none⟩) n c) (some (.int .i64 (l : Int))) (some (.int .i64 (h : Int))) none).run Try.prog w = .ok (.slice (some ⟨g, o + l, none⟩) k (c - l)) w := by
  rw [run_cut_mid w _ n c l h (by omega) hh, show h - l = k by omega]
  unfold cutAt
  rw [if_neg (by omega), Option.map_some, Addr.add_mid]
end Go.Proofs.Ytdddeneppciiiaa
