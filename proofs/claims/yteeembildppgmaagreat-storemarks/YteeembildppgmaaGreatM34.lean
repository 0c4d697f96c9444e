/- A part of it: DFollow. -/
import Derived.Test.YteeembildppgmaaGreatM33
namespace Go.Proofs.YteeembildppgmaaGreat.Rd
open Go.RowKit
set_option linter.unusedVariables false
set_option linter.unusedSimpArgs false
structure AnaIs (w0 w : World) (R bt bd n m : Nat) (lg : Sv) (T : Int → Option Tx) (F : Int → Option Int) (C : Int) : Prop where
  head : w.heap[R]? = some (.cells #[.slice lg.a lg.n lg.c, .map (some bt), .map (some bd), .int .i64 C, .nilFunc, .map none, .slice none 0 0, .slice none 0 0, .slice none 0 0] 197 (0, 0))
  mt : MapT w bt n T
  md : MapI w bd m F
  below : Below w0.heap.size w0 w
  r0 : w0.heap.size ≤ R
  t0 : w0.heap.size ≤ bt
  d0 : w0.heap.size ≤ bd
  n1 : R ≠ bt
  n2 : R ≠ bd
  n3 : bt ≠ bd
section
variable {w0 w w' : World} {R bt bd n m : Nat} {lg : Sv} {T : Int → Option Tx} {F : Int → Option Int} {C : Int}
theorem AnaIs.c0 (x : AnaIs w0 w R bt bd n m lg T F C) : w.cell? ⟨R, 0, none⟩ = some (.slice lg.a lg.n lg.c) := by rw [cell_of_row w R 0 _ _ _ x.head]; rfl
theorem AnaIs.c1 (x : AnaIs w0 w R bt bd n m lg T F C) : w.cell? ⟨R, 1, none⟩ = some (.map (some bt)) := by rw [cell_of_row w R 1 _ _ _ x.head]; rfl
theorem AnaIs.c2 (x : AnaIs w0 w R bt bd n m lg T F C) : w.cell? ⟨R, 2, none⟩ = some (.map (some bd)) := by rw [cell_of_row w R 2 _ _ _ x.head]; rfl
theorem AnaIs.c3 (x : AnaIs w0 w R bt bd n m lg T F C) : w.cell? ⟨R, 3, none⟩ = some (.int .i64 C) := by rw [cell_of_row w R 3 _ _ _ x.head]; rfl
theorem AnaIs.f3 (x : AnaIs w0 w R bt bd n m lg T F C) : w.frozen? ⟨R, 3, none⟩ = false := frozen_of_row _ _ _ _ _ x.head
theorem AnaIs.lt (x : AnaIs w0 w R bt bd n m lg T F C) : R < w.heap.size := (Array.getElem?_eq_some_iff.1 x.head).1
theorem AnaIs.stayD (x : AnaIs w0 w R bt bd n m lg T F C) (hb : Below w.heap.size w w') : AnaIs w0 w' R bt bd n m lg T F C :=
  { x with head := (hb.block R x.lt).trans x.head, mt := x.mt.stay (hb.block bt x.mt.lt), md := x.md.stay (hb.block bd x.md.lt), below := x.below.trans (hb.mono x.below.size) }
theorem AnaIs.stayO (x : AnaIs w0 w R bt bd n m lg T F C) {g : Nat} (hO : Off [g] w w') (h1 : g ≠ R) (h2 : g ≠ bt) (h3 : g ≠ bd) (h4 : w0.heap.size ≤ g) : AnaIs w0 w' R bt bd n m lg T F C :=
  { x with
    head := (hO.block R x.lt (by simpa using fun e => h1 e.symm)).trans x.head
    mt := x.mt.stay (hO.block bt x.mt.lt (by simpa using fun e => h2 e.symm))
    md := x.md.stay (hO.block bd x.md.lt (by simpa using fun e => h3 e.symm))
    below := x.below.trans ⟨hO.os, hO.tape, hO.output, hO.size, fun k hk => hO.block k (Nat.lt_of_lt_of_le hk x.below.size) (by simp only [List.mem_singleton]; omega)⟩ }
theorem AnaIs.count (x : AnaIs w0 w R bt bd n m lg T F C) (C' : Int) : AnaIs w0 (w.setCell ⟨R, 3, none⟩ (.int .i64 C')) R bt bd n m lg T F C' :=
  { x with
    head := heap_setCell_same w R 3 _ 197 (.int .i64 C') x.head
    mt := x.mt.stay (heap_setCell_other _ _ _ _ (by simpa using fun e => x.n1 e.symm))
    md := x.md.stay (heap_setCell_other _ _ _ _ (by simpa using fun e => x.n2 e.symm))
    below := x.below.setCell (p := ⟨R, 3, none⟩) x.r0 _ }
theorem AnaIs.grownT (x : AnaIs w0 w R bt bd n m lg T F C) {n' : Nat} {T' : Int → Option Tx} (hg : w.grownBy w' (some bt)) (h : MapT w' bt n' T') : AnaIs w0 w' R bt bd n' m lg T' F C :=
  { x with
    head := (hg.block R x.lt (by simpa using x.n1)).trans x.head
    mt := h
    md := x.md.stay (hg.block bd x.md.lt (by simpa using fun e => x.n3 e.symm))
    below := x.below.grown hg x.below.size (fun k e => by cases e; exact x.t0) }
theorem AnaIs.grownD (x : AnaIs w0 w R bt bd n m lg T F C) {m' : Nat} {F' : Int → Option Int} (hg : w.grownBy w' (some bd)) (h : MapI w' bd m' F') : AnaIs w0 w' R bt bd n m' lg T F' C :=
  { x with
    head := (hg.block R x.lt (by simpa using x.n2)).trans x.head
    mt := x.mt.stay (hg.block bt x.mt.lt (by simpa using x.n3))
    md := h
    below := x.below.grown hg x.below.size (fun k e => by cases e; exact x.d0) }
def seenT (T : Int → Option Tx) (x : Ln) : Tx := { (T x.txn).getD ⟨x.txn, 0, 1⟩ with last := x.lsn }
def follow1 (s : (Int → Option Tx) × Int) (x : Ln) : (Int → Option Tx) × Int :=
  if x.kind = 4 then (updT s.1 x.txn { seenT s.1 x with st := 2 }, s.2 + 1)
  else if x.kind = 5 then (updT s.1 x.txn { seenT s.1 x with st := 3 }, s.2)
  else if x.kind = 6 then (delT s.1 x.txn, s.2)
  else (updT s.1 x.txn (seenT s.1 x), s.2)
theorem MapT.drop {b : Nat} (h : MapT w b n T) {k : Int} (hk : In64 k) (ty : TypeId) : ∃ w', (Builtin.delete_ #[193, 3] ty #[.map (some b), .int .i64 k]).run Tryz.prog w = .ok (.tuple #[]) w' ∧ MapT w' b n (delT T k) ∧ w.grownBy w' (some b) := by
  obtain ⟨D, h1, h2⟩ := h
  obtain ⟨w', r1, r2, r3⟩ := h1.drop keyedI Tryz.underlying193 (keyI hk) ty
  refine ⟨w', r1, ⟨_, r2, fun x hx => ?_⟩, r3.grown⟩
  unfold delT
  by_cases e : x = k
  · subst e
    rw [if_pos rfl]
    exact ⟨Maps.has_del_same, Maps.atKey_del_same _⟩
  · rw [if_neg e]
    have hne : Lit.int .i64 x ≠ Lit.int .i64 k := fun h => e (by injection h)
    obtain ⟨a1, a2⟩ := h2 x hx
    exact ⟨by rw [Maps.has_del_other hne]; exact a1, by rw [Maps.atKey_del_other hne]; exact a2⟩
theorem wpList_lookup67 {ops : Array Oper} {rest : List Oper} {o : Oper} {a : Act} {Q : Exit → Act → World → Prop} (hg : o.guard = none) (x y : Operand) (hop : o.op = Op.lookup 193 x y true)
    (b : Nat) (k : Int) (v : Value) (hx : a.eval x = .map (some b)) (hy : a.eval y = .int .i64 k) (hrun : (Instr.lookup 193 (.map (some b)) (.int .i64 k) true).run Tryz.prog w = .ok v w) (hK : wpList Tryz.prog ops Q rest (a.put o.dst v) w) : wpList Tryz.prog ops Q (o :: rest) a w := by
  refine wpList_plain hg fun K' hK' => ?_
  unfold Oper.wp
  simp [execOp, hop, hx, hy, hrun, Result.andThen]
  exact hK' _ _ hK
theorem run_load140 (w : World) (g : Nat) (x : Tx) (h : w.heap[g]? = some (.cells (txCells x).toArray 140 (0, 0))) : (Instr.loadAt 140 (.pointer (some ⟨g, 0, none⟩))).run Tryz.prog w = .ok (.agg (txCells x).toArray) w := by
  have c0 : w.cell? ⟨g, 0, none⟩ = some (.int .i64 x.id) := by rw [cell_of_row _ _ _ _ _ _ h]; rfl
  have c1 : w.cell? ⟨g, 1, none⟩ = some (.int .i64 x.last) := by rw [cell_of_row _ _ _ _ _ _ h]; rfl
  have c2 : w.cell? ⟨g, 2, none⟩ = some (.int .i64 x.st) := by rw [cell_of_row _ _ _ _ _ _ h]; rfl
  have hu := Tryz.underlying140
  unfold txCells
  simp [go_sem, c0, c1, c2]
theorem wpList_delete67 {ops : Array Oper} {rest : List Oper} {o : Oper} {a : Act} {Q : Exit → Act → World → Prop} (hg : o.guard = none) (x y : Operand) (hop : o.op = Op.call { callee := Callee.builtin Builtin.delete, args := #[x, y], argTypes := #[193, 3] })
    (b : Nat) (k : Int) (hx : a.eval x = .map (some b)) (hy : a.eval y = .int .i64 k) (hrun : ∀ ty, ∃ w', (Builtin.delete_ #[193, 3] ty #[.map (some b), .int .i64 k]).run Tryz.prog w = .ok (.tuple #[]) w' ∧ MapT w' b n (delT T k) ∧ w.grownBy w' (some b)) (hK : ∀ w', MapT w' b n (delT T k) → w.grownBy w' (some b) → wpList Tryz.prog ops Q rest (a.put o.dst (.tuple #[])) w') : wpList Tryz.prog ops Q (o :: rest) a w := by
  refine wpList_plain hg fun K' hK' => ?_
  obtain ⟨w', r1, r2, r3⟩ := hrun o.type
  unfold Oper.wp
  simp [execOp, hop, resolve, invoke, builtin, hx, hy, r1, Result.andThen]
  exact hK' _ _ (hK w' r2 r3)
set_option maxHeartbeats 2000000 in
set_option maxRecDepth 100000 in
theorem follow_any (X : AnaIs w0 w R bt bd n m lg T F C) (x : Ln) (hok : x.ok) (hn : n ≤ 1000000) (hC : 0 ≤ C ∧ C ≤ 1000000) :
    Calls Tryz.prog 179 #[.pointer (some ⟨R, 0, none⟩), .agg (lnCells x).toArray] w fun e w' => e = .returned (.tuple #[]) ∧ Off [R, bt] w w' ∧ ∃ n', n' ≤ n + 1 ∧ AnaIs w0 w' R bt bd n' m lg (follow1 (T, C) x).1 F (follow1 (T, C) x).2 := by
  have HX := hide X
  obtain ⟨hC1, hC2⟩ := hC
  have hRl := X.lt
  have htl := X.mt.lt
  have hdl := X.md.lt
  have h00 := X.below.size
  clear X
  obtain ⟨K, hK⟩ : ∃ K, x.kind = K := ⟨_, rfl⟩
  unfold lnCells recCells
  rw [hK]
  go_enter Tryz.func179, Tryz.ntmps179
  go_upto_region 2 with fail
  generalize hx1 : w.alloc _ = x1
  have hG : x1.heap[w.heap.size]? = some (.cells #[.int .i64 x.lsn, .int .i64 K, .int .i64 x.txn, .int .i64 x.prev, .int .i64 x.next, .int .i64 x.page, .int .i64 x.off, .slice x.sb.a x.sb.n x.sb.c, .slice x.sa.a x.sa.n x.sa.c, .slice x.st.a x.st.n x.st.c, .slice x.sd.a x.sd.n x.sd.c, .int .i64 x.count] 88 (0, 0)) := by rw [← hx1]; exact heap_alloc_new _ _
  have HX1 : Hid (AnaIs w0 x1 R bt bd n m lg T F C) := HX.out.stayD (by rw [← hx1]; exact (Below.refl _ _).alloc (Nat.le_refl _) _)
  have hsz : x1.heap.size = w.heap.size + 1 := by rw [← hx1]; simp
  have HO1 : Hid (Off [R, bt] w x1) := by show Off _ _ _; rw [← hx1]; exact (Off.refl _ w).alloc _
  have a0 : x1.cell? ⟨w.heap.size, 0, none⟩ = some (.int .i64 x.lsn) := by rw [cell_of_row _ _ _ _ _ _ hG]; rfl
  have a1 : x1.cell? ⟨w.heap.size, 1, none⟩ = some (.int .i64 K) := by rw [cell_of_row _ _ _ _ _ _ hG]; rfl
  have k1 := HX1.out.c1
  have HLK := hide (HX1.out.mt.look hok.txn)
  clear hx1 hG HX
  generalize hq : w.heap.size = q at *
  have HQ := hide hq
  clear hq
  unfold txCells at HLK
  cases hT : T x.txn with
  | none =>
    rw [hT] at HLK
    simp only [Option.getD_none, Option.isSome_none, Tx.zero] at HLK
    go_upto_region 7 with (refine wpList_lookup67 (by rfl) _ _ (by rfl) bt x.txn _ (by rfl) (by rfl) HLK.out ?_)
    generalize hx2 : x1.alloc _ = x2
    have hG2 : x2.heap[q + 1]? = some (.cells #[.int .i64 x.txn, .int .i64 x.lsn, .int .i64 1] 140 (0, 0)) := by rw [← hx2, ← hsz]; exact heap_alloc_new _ _
    have HX2 : Hid (AnaIs w0 x2 R bt bd n m lg T F C) := HX1.out.stayD (by rw [← hx2]; exact (Below.refl _ _).alloc (Nat.le_refl _) _)
    have b2 : x2.cell? ⟨q + 1, 2, none⟩ = some (.int .i64 1) := by rw [cell_of_row _ _ _ _ _ _ hG2]; rfl
    have fb2 : x2.frozen? ⟨q + 1, 2, none⟩ = false := frozen_of_row _ _ _ _ _ hG2
    have k3 := HX2.out.c3
    have fk3 := HX2.out.f3
    have k1' := HX2.out.c1
    have hgt : q + 1 ≠ bt := by omega
    have hgd : q + 1 ≠ bd := by omega
    have hgR : q + 1 ≠ R := by omega
    have hg0 : w0.heap.size ≤ q + 1 := by omega
    have HG2 := hide hG2
    have HO2 : Hid (Off [R, bt] w x2) := by show Off _ _ _; rw [← hx2]; exact HO1.out.alloc _
    clear hx2 hG2 HX1 HLK a0 a1 k1 hsz hRl htl hdl
    obtain ⟨g, hg⟩ : ∃ g, q + 1 = g := ⟨_, rfl⟩
    have HQG : Hid (w.heap.size ≤ g) := by show _ ≤ _; rw [HQ.out]; omega
    rw [hg] at HG2 b2 fb2 hgt hgd hgR hg0 ⊢
    clear hg
    by_cases h4 : K = 4
    · subst h4
      have HF : Hid (follow1 (T, C) x = (updT T x.txn ⟨x.txn, x.lsn, 2⟩, C + 1)) := by show _ = _; simp [follow1, seenT, hK, hT]
      go_upto_region 9 with fail
      generalize hx3 : x2.setCell _ _ = x3
      have HG3 : Hid (x3.heap[g]? = some (.cells (txCells ⟨x.txn, x.lsn, 2⟩).toArray 140 (0, 0))) := by show _ = _; rw [← hx3]; exact heap_setCell_same x2 g 2 _ 140 (.int .i64 2) HG2.out
      have HX3 : Hid (AnaIs w0 x3 R bt bd n m lg T F C) := HX2.out.stayO (g := g) (by rw [← hx3]; exact (Off.refl [g] x2).setCell _ _ (.inl (by simp))) hgR hgt hgd hg0
      have k3' := HX3.out.c3
      have fk3' := HX3.out.f3
      have HO3 : Hid (Off [R, bt] w x3) := by show Off _ _ _; rw [← hx3]; exact HO2.out.setCell _ _ (.inr HQG.out)
      clear hx3 HX2 HG2 k3 fk3 b2 fb2 k1'
      go_upto_region 14 with fail
      generalize hx5 : x3.setCell _ _ = x5
      have HX5 : Hid (AnaIs w0 x5 R bt bd n m lg T F (C + 1)) := by show AnaIs _ _ _ _ _ _ _ _ _ _ _; rw [← hx5]; exact HX3.out.count (C + 1)
      obtain ⟨X5, hX5⟩ : ∃ X5 : Tx, X5 = ⟨x.txn, x.lsn, 2⟩ := ⟨_, rfl⟩
      rw [← hX5] at HG3 HF
      have HG5 : Hid (x5.heap[g]? = some (.cells (txCells X5).toArray 140 (0, 0))) := by show _ = _; rw [← hx5]; exact (heap_setCell_other _ _ _ _ hgR).trans HG3.out
      have HO5 : Hid (Off [R, bt] w x5) := by show Off _ _ _; rw [← hx5]; exact HO3.out.setCell _ _ (.inl (by simp))
      clear hx5 HX3 HG3 k3' fk3' hX5
      refine wp_region_held_drew (S := fun w' => (w'.cell? ⟨R, 1, none⟩ = some (.map (some bt)) ∧ w'.heap[g]? = some (.cells (txCells X5).toArray 140 (0, 0)))) (by kernel_rfl) ⟨HX5.out.c1, HG5.out⟩ (fun hH => ?_)
      refine take_to 0 49 (.pointer (some ⟨R, 0, none⟩)) rfl (by kernel_rfl) (by kernel_rfl) (by kernel_rfl) (fun _ _ _ h => h) rfl (by rfl) (fun w hw => by rfl) hH ?_
      simp only [Act.put, List.setIfInBounds_toArray, List.set_cons_zero, List.set_cons_succ]
      refine take_to 1 50 (.pointer (some ⟨R, 0, none⟩)) rfl (by kernel_rfl) (by kernel_rfl) (by kernel_rfl) (fun _ _ _ h => h) rfl (by rfl) (fun w hw => by rfl) hH ?_
      simp only [Act.put, List.setIfInBounds_toArray, List.set_cons_zero, List.set_cons_succ]
      refine take_to 2 51 (.pointer (some ⟨R, 1, none⟩)) rfl (by kernel_rfl) (by kernel_rfl) (by kernel_rfl) (fun _ _ _ h => h) rfl (by rfl) (fun w hw => by rfl) hH ?_
      simp only [Act.put, List.setIfInBounds_toArray, List.set_cons_zero, List.set_cons_succ]
      refine take_to 3 52 (.map (some bt)) rfl (by kernel_rfl) (by kernel_rfl) (by kernel_rfl) (fun _ _ _ h => h) rfl (by rfl) (fun w hw => op_load _ _ 193 (.tmp 51) rfl (.pointer (some ⟨R, 1, none⟩)) _ rfl (run_loadAny w R (1) 193 _ Tryz.isAgg193 hw.1)) hH ?_
      simp only [Act.put, List.setIfInBounds_toArray, List.set_cons_zero, List.set_cons_succ]
      refine take_to 4 53 (.int .i64 x.txn) rfl (by kernel_rfl) (by kernel_rfl) (by kernel_rfl) (fun _ _ _ h => h) rfl (by rfl) (fun w hw => by rfl) hH ?_
      simp only [Act.put, List.setIfInBounds_toArray, List.set_cons_zero, List.set_cons_succ]
      refine take_to 5 54 (.agg (txCells X5).toArray) rfl (by kernel_rfl) (by kernel_rfl) (by kernel_rfl) (fun _ _ _ h => h) rfl (by rfl) (fun w hw => op_load _ _ 140 (.tmp 5) rfl (.pointer (some ⟨g, 0, none⟩)) _ rfl (run_load140 w g X5 hw.2)) hH ?_
      simp only [Act.put, List.setIfInBounds_toArray, List.set_cons_zero, List.set_cons_succ]
      obtain ⟨w6, q1, q2, q3⟩ := (HX5.out.stayD (below_drewN _ _ 1)).mt.store (by omega) X5 hok.txn
      have hS6 : w6.cell? ⟨R, 1, none⟩ = some (.map (some bt)) ∧ w6.heap[g]? = some (.cells (txCells X5).toArray 140 (0, 0)) :=
        ⟨(World.cell?_of_block (a := ⟨R, 1, none⟩) (q3.block R (World.block_lt_of_cell? _ _ hH.1) (by simpa using HX5.out.n1))).trans hH.1, (q3.block g (Array.getElem?_eq_some_iff.1 hH.2).1 (by simpa using hgt)).trans hH.2⟩
      refine step_map_to 6 w6 rfl (by kernel_rfl) rfl (by rfl) 193 (.tmp 52) (.tmp 53) (.tmp 54) rfl _ _ _ rfl rfl rfl q1 hS6 ?_
      refine wpAnyH_done (by kernel_rfl) ?_ _
      have HX6 := hide ((HX5.out.stayD (below_drewN _ _ 1)).grownT q3 q2)
      have HO6 : Hid (Off [R, bt] w w6) := (HO5.out.drewN 1).grown q3 (fun k hk => by cases hk; exact .inl (by simp))
      clear hH hS6 q1 q2 q3
      go_wp2
      go_end0
      refine ⟨rfl, HO6.out, n + 1, by omega, ?_⟩
      rw [HF.out]
      exact HX6.out
    · have q4 : (K == 4) = false := beq_eq_false_iff_ne.2 h4
      by_cases h5 : K = 5
      · subst h5
        have HF : Hid (follow1 (T, C) x = (updT T x.txn ⟨x.txn, x.lsn, 3⟩, C)) := by show _ = _; simp [follow1, seenT, hK, hT]
        go_upto_region 14 with fail
        generalize hx5 : x2.setCell _ _ = x5
        have HG3 : Hid (x5.heap[g]? = some (.cells (txCells ⟨x.txn, x.lsn, 3⟩).toArray 140 (0, 0))) := by show _ = _; rw [← hx5]; exact heap_setCell_same x2 g 2 _ 140 (.int .i64 3) HG2.out
        have HX5 : Hid (AnaIs w0 x5 R bt bd n m lg T F C) := HX2.out.stayO (g := g) (by rw [← hx5]; exact (Off.refl [g] x2).setCell _ _ (.inl (by simp))) hgR hgt hgd hg0
        obtain ⟨X5, hX5⟩ : ∃ X5 : Tx, X5 = ⟨x.txn, x.lsn, 3⟩ := ⟨_, rfl⟩
        rw [← hX5] at HG3 HF
        have HG5 := HG3
        have HO5 : Hid (Off [R, bt] w x5) := by show Off _ _ _; rw [← hx5]; exact HO2.out.setCell _ _ (.inr HQG.out)
        clear hx5 HX2 HG3 k3 fk3 b2 fb2 hX5 k1' HG2
        refine wp_region_held_drew (S := fun w' => (w'.cell? ⟨R, 1, none⟩ = some (.map (some bt)) ∧ w'.heap[g]? = some (.cells (txCells X5).toArray 140 (0, 0)))) (by kernel_rfl) ⟨HX5.out.c1, HG5.out⟩ (fun hH => ?_)
        refine take_to 0 49 (.pointer (some ⟨R, 0, none⟩)) rfl (by kernel_rfl) (by kernel_rfl) (by kernel_rfl) (fun _ _ _ h => h) rfl (by rfl) (fun w hw => by rfl) hH ?_
        simp only [Act.put, List.setIfInBounds_toArray, List.set_cons_zero, List.set_cons_succ]
        refine take_to 1 50 (.pointer (some ⟨R, 0, none⟩)) rfl (by kernel_rfl) (by kernel_rfl) (by kernel_rfl) (fun _ _ _ h => h) rfl (by rfl) (fun w hw => by rfl) hH ?_
        simp only [Act.put, List.setIfInBounds_toArray, List.set_cons_zero, List.set_cons_succ]
        refine take_to 2 51 (.pointer (some ⟨R, 1, none⟩)) rfl (by kernel_rfl) (by kernel_rfl) (by kernel_rfl) (fun _ _ _ h => h) rfl (by rfl) (fun w hw => by rfl) hH ?_
        simp only [Act.put, List.setIfInBounds_toArray, List.set_cons_zero, List.set_cons_succ]
        refine take_to 3 52 (.map (some bt)) rfl (by kernel_rfl) (by kernel_rfl) (by kernel_rfl) (fun _ _ _ h => h) rfl (by rfl) (fun w hw => op_load _ _ 193 (.tmp 51) rfl (.pointer (some ⟨R, 1, none⟩)) _ rfl (run_loadAny w R (1) 193 _ Tryz.isAgg193 hw.1)) hH ?_
        simp only [Act.put, List.setIfInBounds_toArray, List.set_cons_zero, List.set_cons_succ]
        refine take_to 4 53 (.int .i64 x.txn) rfl (by kernel_rfl) (by kernel_rfl) (by kernel_rfl) (fun _ _ _ h => h) rfl (by rfl) (fun w hw => by rfl) hH ?_
        simp only [Act.put, List.setIfInBounds_toArray, List.set_cons_zero, List.set_cons_succ]
        refine take_to 5 54 (.agg (txCells X5).toArray) rfl (by kernel_rfl) (by kernel_rfl) (by kernel_rfl) (fun _ _ _ h => h) rfl (by rfl) (fun w hw => op_load _ _ 140 (.tmp 5) rfl (.pointer (some ⟨g, 0, none⟩)) _ rfl (run_load140 w g X5 hw.2)) hH ?_
        simp only [Act.put, List.setIfInBounds_toArray, List.set_cons_zero, List.set_cons_succ]
        obtain ⟨w6, q1, q2, q3⟩ := (HX5.out.stayD (below_drewN _ _ 1)).mt.store (by omega) X5 hok.txn
        have hS6 : w6.cell? ⟨R, 1, none⟩ = some (.map (some bt)) ∧ w6.heap[g]? = some (.cells (txCells X5).toArray 140 (0, 0)) :=
          ⟨(World.cell?_of_block (a := ⟨R, 1, none⟩) (q3.block R (World.block_lt_of_cell? _ _ hH.1) (by simpa using HX5.out.n1))).trans hH.1, (q3.block g (Array.getElem?_eq_some_iff.1 hH.2).1 (by simpa using hgt)).trans hH.2⟩
        refine step_map_to 6 w6 rfl (by kernel_rfl) rfl (by rfl) 193 (.tmp 52) (.tmp 53) (.tmp 54) rfl _ _ _ rfl rfl rfl q1 hS6 ?_
        refine wpAnyH_done (by kernel_rfl) ?_ _
        have HX6 := hide ((HX5.out.stayD (below_drewN _ _ 1)).grownT q3 q2)
        have HO6 : Hid (Off [R, bt] w w6) := (HO5.out.drewN 1).grown q3 (fun k hk => by cases hk; exact .inl (by simp))
        clear hH hS6 q1 q2 q3
        go_wp2
        go_end0
        refine ⟨rfl, HO6.out, n + 1, by omega, ?_⟩
        rw [HF.out]
        exact HX6.out
      · have q5 : (K == 5) = false := beq_eq_false_iff_ne.2 h5
        by_cases h6 : K = 6
        · subst h6
          have HF : Hid (follow1 (T, C) x = (delT T x.txn, C)) := by show _ = _; simp [follow1, hK]
          have HDR := hide (fun ty => HX2.out.mt.drop (k := x.txn) hok.txn ty)
          go_wp2_with (refine wpList_delete67 (by rfl) _ _ (by rfl) bt x.txn (by rfl) (by rfl) HDR.out ?_; rintro w6 hm6 hg6)
          have HX6 := hide (HX2.out.grownT hg6 hm6)
          refine bodyPost_ret (results_none rfl _ _ _) rfl ?_
          refine ⟨rfl, HO2.out.grown hg6 (fun k hk => by cases hk; exact .inl (by simp)), n, by omega, ?_⟩
          rw [HF.out]
          exact HX6.out
        · have q6 : (K == 6) = false := beq_eq_false_iff_ne.2 h6
          have HF : Hid (follow1 (T, C) x = (updT T x.txn ⟨x.txn, x.lsn, 1⟩, C)) := by show _ = _; simp [follow1, seenT, hK, hT, h4, h5, h6]
          go_upto_region 14 with fail
          have HX5 := HX2
          have HO5 := HO2
          obtain ⟨X5, hX5⟩ : ∃ X5 : Tx, X5 = ⟨x.txn, x.lsn, 1⟩ := ⟨_, rfl⟩
          rw [← hX5] at HF
          have HG5 : Hid (x2.heap[g]? = some (.cells (txCells X5).toArray 140 (0, 0))) := by show _ = _; rw [hX5]; exact HG2.out
          clear HX2 k3 fk3 b2 fb2 hX5 k1' HG2
          refine wp_region_held_drew (S := fun w' => (w'.cell? ⟨R, 1, none⟩ = some (.map (some bt)) ∧ w'.heap[g]? = some (.cells (txCells X5).toArray 140 (0, 0)))) (by kernel_rfl) ⟨HX5.out.c1, HG5.out⟩ (fun hH => ?_)
          refine take_to 0 49 (.pointer (some ⟨R, 0, none⟩)) rfl (by kernel_rfl) (by kernel_rfl) (by kernel_rfl) (fun _ _ _ h => h) rfl (by rfl) (fun w hw => by rfl) hH ?_
          simp only [Act.put, List.setIfInBounds_toArray, List.set_cons_zero, List.set_cons_succ]
          refine take_to 1 50 (.pointer (some ⟨R, 0, none⟩)) rfl (by kernel_rfl) (by kernel_rfl) (by kernel_rfl) (fun _ _ _ h => h) rfl (by rfl) (fun w hw => by rfl) hH ?_
          simp only [Act.put, List.setIfInBounds_toArray, List.set_cons_zero, List.set_cons_succ]
          refine take_to 2 51 (.pointer (some ⟨R, 1, none⟩)) rfl (by kernel_rfl) (by kernel_rfl) (by kernel_rfl) (fun _ _ _ h => h) rfl (by rfl) (fun w hw => by rfl) hH ?_
          simp only [Act.put, List.setIfInBounds_toArray, List.set_cons_zero, List.set_cons_succ]
          refine take_to 3 52 (.map (some bt)) rfl (by kernel_rfl) (by kernel_rfl) (by kernel_rfl) (fun _ _ _ h => h) rfl (by rfl) (fun w hw => op_load _ _ 193 (.tmp 51) rfl (.pointer (some ⟨R, 1, none⟩)) _ rfl (run_loadAny w R (1) 193 _ Tryz.isAgg193 hw.1)) hH ?_
          simp only [Act.put, List.setIfInBounds_toArray, List.set_cons_zero, List.set_cons_succ]
          refine take_to 4 53 (.int .i64 x.txn) rfl (by kernel_rfl) (by kernel_rfl) (by kernel_rfl) (fun _ _ _ h => h) rfl (by rfl) (fun w hw => by rfl) hH ?_
          simp only [Act.put, List.setIfInBounds_toArray, List.set_cons_zero, List.set_cons_succ]
          refine take_to 5 54 (.agg (txCells X5).toArray) rfl (by kernel_rfl) (by kernel_rfl) (by kernel_rfl) (fun _ _ _ h => h) rfl (by rfl) (fun w hw => op_load _ _ 140 (.tmp 5) rfl (.pointer (some ⟨g, 0, none⟩)) _ rfl (run_load140 w g X5 hw.2)) hH ?_
          simp only [Act.put, List.setIfInBounds_toArray, List.set_cons_zero, List.set_cons_succ]
          obtain ⟨w6, q1, q2, q3⟩ := (HX5.out.stayD (below_drewN _ _ 1)).mt.store (by omega) X5 hok.txn
          have hS6 : w6.cell? ⟨R, 1, none⟩ = some (.map (some bt)) ∧ w6.heap[g]? = some (.cells (txCells X5).toArray 140 (0, 0)) :=
            ⟨(World.cell?_of_block (a := ⟨R, 1, none⟩) (q3.block R (World.block_lt_of_cell? _ _ hH.1) (by simpa using HX5.out.n1))).trans hH.1, (q3.block g (Array.getElem?_eq_some_iff.1 hH.2).1 (by simpa using hgt)).trans hH.2⟩
          refine step_map_to 6 w6 rfl (by kernel_rfl) rfl (by rfl) 193 (.tmp 52) (.tmp 53) (.tmp 54) rfl _ _ _ rfl rfl rfl q1 hS6 ?_
          refine wpAnyH_done (by kernel_rfl) ?_ _
          have HX6 := hide ((HX5.out.stayD (below_drewN _ _ 1)).grownT q3 q2)
          have HO6 : Hid (Off [R, bt] w w6) := (HO5.out.drewN 1).grown q3 (fun k hk => by cases hk; exact .inl (by simp))
          clear hH hS6 q1 q2 q3
          go_wp2
          go_end0
          refine ⟨rfl, HO6.out, n + 1, by omega, ?_⟩
          rw [HF.out]
          exact HX6.out
  | some y =>
    rw [hT] at HLK
    simp only [Option.getD_some, Option.isSome_some] at HLK
    go_upto_region 7 with (refine wpList_lookup67 (by rfl) _ _ (by rfl) bt x.txn _ (by rfl) (by rfl) HLK.out ?_)
    generalize hx2 : x1.alloc _ = x2
    have hG2 : x2.heap[q + 1]? = some (.cells #[.int .i64 y.id, .int .i64 x.lsn, .int .i64 y.st] 140 (0, 0)) := by rw [← hx2, ← hsz]; exact heap_alloc_new _ _
    have HX2 : Hid (AnaIs w0 x2 R bt bd n m lg T F C) := HX1.out.stayD (by rw [← hx2]; exact (Below.refl _ _).alloc (Nat.le_refl _) _)
    have b2 : x2.cell? ⟨q + 1, 2, none⟩ = some (.int .i64 y.st) := by rw [cell_of_row _ _ _ _ _ _ hG2]; rfl
    have fb2 : x2.frozen? ⟨q + 1, 2, none⟩ = false := frozen_of_row _ _ _ _ _ hG2
    have k3 := HX2.out.c3
    have fk3 := HX2.out.f3
    have k1' := HX2.out.c1
    have hgt : q + 1 ≠ bt := by omega
    have hgd : q + 1 ≠ bd := by omega
    have hgR : q + 1 ≠ R := by omega
    have hg0 : w0.heap.size ≤ q + 1 := by omega
    have HG2 := hide hG2
    have HO2 : Hid (Off [R, bt] w x2) := by show Off _ _ _; rw [← hx2]; exact HO1.out.alloc _
    clear hx2 hG2 HX1 HLK a0 a1 k1 hsz hRl htl hdl
    obtain ⟨g, hg⟩ : ∃ g, q + 1 = g := ⟨_, rfl⟩
    have HQG : Hid (w.heap.size ≤ g) := by show _ ≤ _; rw [HQ.out]; omega
    rw [hg] at HG2 b2 fb2 hgt hgd hgR hg0 ⊢
    clear hg
    by_cases h4 : K = 4
    · subst h4
      have HF : Hid (follow1 (T, C) x = (updT T x.txn ⟨y.id, x.lsn, 2⟩, C + 1)) := by show _ = _; simp [follow1, seenT, hK, hT]
      go_upto_region 9 with fail
      generalize hx3 : x2.setCell _ _ = x3
      have HG3 : Hid (x3.heap[g]? = some (.cells (txCells ⟨y.id, x.lsn, 2⟩).toArray 140 (0, 0))) := by show _ = _; rw [← hx3]; exact heap_setCell_same x2 g 2 _ 140 (.int .i64 2) HG2.out
      have HX3 : Hid (AnaIs w0 x3 R bt bd n m lg T F C) := HX2.out.stayO (g := g) (by rw [← hx3]; exact (Off.refl [g] x2).setCell _ _ (.inl (by simp))) hgR hgt hgd hg0
      have k3' := HX3.out.c3
      have fk3' := HX3.out.f3
      have HO3 : Hid (Off [R, bt] w x3) := by show Off _ _ _; rw [← hx3]; exact HO2.out.setCell _ _ (.inr HQG.out)
      clear hx3 HX2 HG2 k3 fk3 b2 fb2 k1'
      go_upto_region 14 with fail
      generalize hx5 : x3.setCell _ _ = x5
      have HX5 : Hid (AnaIs w0 x5 R bt bd n m lg T F (C + 1)) := by show AnaIs _ _ _ _ _ _ _ _ _ _ _; rw [← hx5]; exact HX3.out.count (C + 1)
      obtain ⟨X5, hX5⟩ : ∃ X5 : Tx, X5 = ⟨y.id, x.lsn, 2⟩ := ⟨_, rfl⟩
      rw [← hX5] at HG3 HF
      have HG5 : Hid (x5.heap[g]? = some (.cells (txCells X5).toArray 140 (0, 0))) := by show _ = _; rw [← hx5]; exact (heap_setCell_other _ _ _ _ hgR).trans HG3.out
      have HO5 : Hid (Off [R, bt] w x5) := by show Off _ _ _; rw [← hx5]; exact HO3.out.setCell _ _ (.inl (by simp))
      clear hx5 HX3 HG3 k3' fk3' hX5
      refine wp_region_held_drew (S := fun w' => (w'.cell? ⟨R, 1, none⟩ = some (.map (some bt)) ∧ w'.heap[g]? = some (.cells (txCells X5).toArray 140 (0, 0)))) (by kernel_rfl) ⟨HX5.out.c1, HG5.out⟩ (fun hH => ?_)
      refine take_to 0 49 (.pointer (some ⟨R, 0, none⟩)) rfl (by kernel_rfl) (by kernel_rfl) (by kernel_rfl) (fun _ _ _ h => h) rfl (by rfl) (fun w hw => by rfl) hH ?_
      simp only [Act.put, List.setIfInBounds_toArray, List.set_cons_zero, List.set_cons_succ]
      refine take_to 1 50 (.pointer (some ⟨R, 0, none⟩)) rfl (by kernel_rfl) (by kernel_rfl) (by kernel_rfl) (fun _ _ _ h => h) rfl (by rfl) (fun w hw => by rfl) hH ?_
      simp only [Act.put, List.setIfInBounds_toArray, List.set_cons_zero, List.set_cons_succ]
      refine take_to 2 51 (.pointer (some ⟨R, 1, none⟩)) rfl (by kernel_rfl) (by kernel_rfl) (by kernel_rfl) (fun _ _ _ h => h) rfl (by rfl) (fun w hw => by rfl) hH ?_
      simp only [Act.put, List.setIfInBounds_toArray, List.set_cons_zero, List.set_cons_succ]
      refine take_to 3 52 (.map (some bt)) rfl (by kernel_rfl) (by kernel_rfl) (by kernel_rfl) (fun _ _ _ h => h) rfl (by rfl) (fun w hw => op_load _ _ 193 (.tmp 51) rfl (.pointer (some ⟨R, 1, none⟩)) _ rfl (run_loadAny w R (1) 193 _ Tryz.isAgg193 hw.1)) hH ?_
      simp only [Act.put, List.setIfInBounds_toArray, List.set_cons_zero, List.set_cons_succ]
      refine take_to 4 53 (.int .i64 x.txn) rfl (by kernel_rfl) (by kernel_rfl) (by kernel_rfl) (fun _ _ _ h => h) rfl (by rfl) (fun w hw => by rfl) hH ?_
      simp only [Act.put, List.setIfInBounds_toArray, List.set_cons_zero, List.set_cons_succ]
      refine take_to 5 54 (.agg (txCells X5).toArray) rfl (by kernel_rfl) (by kernel_rfl) (by kernel_rfl) (fun _ _ _ h => h) rfl (by rfl) (fun w hw => op_load _ _ 140 (.tmp 5) rfl (.pointer (some ⟨g, 0, none⟩)) _ rfl (run_load140 w g X5 hw.2)) hH ?_
      simp only [Act.put, List.setIfInBounds_toArray, List.set_cons_zero, List.set_cons_succ]
      obtain ⟨w6, q1, q2, q3⟩ := (HX5.out.stayD (below_drewN _ _ 1)).mt.store (by omega) X5 hok.txn
      have hS6 : w6.cell? ⟨R, 1, none⟩ = some (.map (some bt)) ∧ w6.heap[g]? = some (.cells (txCells X5).toArray 140 (0, 0)) :=
        ⟨(World.cell?_of_block (a := ⟨R, 1, none⟩) (q3.block R (World.block_lt_of_cell? _ _ hH.1) (by simpa using HX5.out.n1))).trans hH.1, (q3.block g (Array.getElem?_eq_some_iff.1 hH.2).1 (by simpa using hgt)).trans hH.2⟩
      refine step_map_to 6 w6 rfl (by kernel_rfl) rfl (by rfl) 193 (.tmp 52) (.tmp 53) (.tmp 54) rfl _ _ _ rfl rfl rfl q1 hS6 ?_
      refine wpAnyH_done (by kernel_rfl) ?_ _
      have HX6 := hide ((HX5.out.stayD (below_drewN _ _ 1)).grownT q3 q2)
      have HO6 : Hid (Off [R, bt] w w6) := (HO5.out.drewN 1).grown q3 (fun k hk => by cases hk; exact .inl (by simp))
      clear hH hS6 q1 q2 q3
      go_wp2
      go_end0
      refine ⟨rfl, HO6.out, n + 1, by omega, ?_⟩
      rw [HF.out]
      exact HX6.out
    · have q4 : (K == 4) = false := beq_eq_false_iff_ne.2 h4
      by_cases h5 : K = 5
      · subst h5
        have HF : Hid (follow1 (T, C) x = (updT T x.txn ⟨y.id, x.lsn, 3⟩, C)) := by show _ = _; simp [follow1, seenT, hK, hT]
        go_upto_region 14 with fail
        generalize hx5 : x2.setCell _ _ = x5
        have HG3 : Hid (x5.heap[g]? = some (.cells (txCells ⟨y.id, x.lsn, 3⟩).toArray 140 (0, 0))) := by show _ = _; rw [← hx5]; exact heap_setCell_same x2 g 2 _ 140 (.int .i64 3) HG2.out
        have HX5 : Hid (AnaIs w0 x5 R bt bd n m lg T F C) := HX2.out.stayO (g := g) (by rw [← hx5]; exact (Off.refl [g] x2).setCell _ _ (.inl (by simp))) hgR hgt hgd hg0
        obtain ⟨X5, hX5⟩ : ∃ X5 : Tx, X5 = ⟨y.id, x.lsn, 3⟩ := ⟨_, rfl⟩
        rw [← hX5] at HG3 HF
        have HG5 := HG3
        have HO5 : Hid (Off [R, bt] w x5) := by show Off _ _ _; rw [← hx5]; exact HO2.out.setCell _ _ (.inr HQG.out)
        clear hx5 HX2 HG3 k3 fk3 b2 fb2 hX5 k1' HG2
        refine wp_region_held_drew (S := fun w' => (w'.cell? ⟨R, 1, none⟩ = some (.map (some bt)) ∧ w'.heap[g]? = some (.cells (txCells X5).toArray 140 (0, 0)))) (by kernel_rfl) ⟨HX5.out.c1, HG5.out⟩ (fun hH => ?_)
        refine take_to 0 49 (.pointer (some ⟨R, 0, none⟩)) rfl (by kernel_rfl) (by kernel_rfl) (by kernel_rfl) (fun _ _ _ h => h) rfl (by rfl) (fun w hw => by rfl) hH ?_
        simp only [Act.put, List.setIfInBounds_toArray, List.set_cons_zero, List.set_cons_succ]
        refine take_to 1 50 (.pointer (some ⟨R, 0, none⟩)) rfl (by kernel_rfl) (by kernel_rfl) (by kernel_rfl) (fun _ _ _ h => h) rfl (by rfl) (fun w hw => by rfl) hH ?_
        simp only [Act.put, List.setIfInBounds_toArray, List.set_cons_zero, List.set_cons_succ]
        refine take_to 2 51 (.pointer (some ⟨R, 1, none⟩)) rfl (by kernel_rfl) (by kernel_rfl) (by kernel_rfl) (fun _ _ _ h => h) rfl (by rfl) (fun w hw => by rfl) hH ?_
        simp only [Act.put, List.setIfInBounds_toArray, List.set_cons_zero, List.set_cons_succ]
        refine take_to 3 52 (.map (some bt)) rfl (by kernel_rfl) (by kernel_rfl) (by kernel_rfl) (fun _ _ _ h => h) rfl (by rfl) (fun w hw => op_load _ _ 193 (.tmp 51) rfl (.pointer (some ⟨R, 1, none⟩)) _ rfl (run_loadAny w R (1) 193 _ Tryz.isAgg193 hw.1)) hH ?_
        simp only [Act.put, List.setIfInBounds_toArray, List.set_cons_zero, List.set_cons_succ]
        refine take_to 4 53 (.int .i64 x.txn) rfl (by kernel_rfl) (by kernel_rfl) (by kernel_rfl) (fun _ _ _ h => h) rfl (by rfl) (fun w hw => by rfl) hH ?_
        simp only [Act.put, List.setIfInBounds_toArray, List.set_cons_zero, List.set_cons_succ]
        refine take_to 5 54 (.agg (txCells X5).toArray) rfl (by kernel_rfl) (by kernel_rfl) (by kernel_rfl) (fun _ _ _ h => h) rfl (by rfl) (fun w hw => op_load _ _ 140 (.tmp 5) rfl (.pointer (some ⟨g, 0, none⟩)) _ rfl (run_load140 w g X5 hw.2)) hH ?_
        simp only [Act.put, List.setIfInBounds_toArray, List.set_cons_zero, List.set_cons_succ]
        obtain ⟨w6, q1, q2, q3⟩ := (HX5.out.stayD (below_drewN _ _ 1)).mt.store (by omega) X5 hok.txn
        have hS6 : w6.cell? ⟨R, 1, none⟩ = some (.map (some bt)) ∧ w6.heap[g]? = some (.cells (txCells X5).toArray 140 (0, 0)) :=
          ⟨(World.cell?_of_block (a := ⟨R, 1, none⟩) (q3.block R (World.block_lt_of_cell? _ _ hH.1) (by simpa using HX5.out.n1))).trans hH.1, (q3.block g (Array.getElem?_eq_some_iff.1 hH.2).1 (by simpa using hgt)).trans hH.2⟩
        refine step_map_to 6 w6 rfl (by kernel_rfl) rfl (by rfl) 193 (.tmp 52) (.tmp 53) (.tmp 54) rfl _ _ _ rfl rfl rfl q1 hS6 ?_
        refine wpAnyH_done (by kernel_rfl) ?_ _
        have HX6 := hide ((HX5.out.stayD (below_drewN _ _ 1)).grownT q3 q2)
        have HO6 : Hid (Off [R, bt] w w6) := (HO5.out.drewN 1).grown q3 (fun k hk => by cases hk; exact .inl (by simp))
        clear hH hS6 q1 q2 q3
        go_wp2
        go_end0
        refine ⟨rfl, HO6.out, n + 1, by omega, ?_⟩
        rw [HF.out]
        exact HX6.out
      · have q5 : (K == 5) = false := beq_eq_false_iff_ne.2 h5
        by_cases h6 : K = 6
        · subst h6
          have HF : Hid (follow1 (T, C) x = (delT T x.txn, C)) := by show _ = _; simp [follow1, hK]
          have HDR := hide (fun ty => HX2.out.mt.drop (k := x.txn) hok.txn ty)
          go_wp2_with (refine wpList_delete67 (by rfl) _ _ (by rfl) bt x.txn (by rfl) (by rfl) HDR.out ?_; rintro w6 hm6 hg6)
          have HX6 := hide (HX2.out.grownT hg6 hm6)
          refine bodyPost_ret (results_none rfl _ _ _) rfl ?_
          refine ⟨rfl, HO2.out.grown hg6 (fun k hk => by cases hk; exact .inl (by simp)), n, by omega, ?_⟩
          rw [HF.out]
          exact HX6.out
        · have q6 : (K == 6) = false := beq_eq_false_iff_ne.2 h6
          have HF : Hid (follow1 (T, C) x = (updT T x.txn ⟨y.id, x.lsn, y.st⟩, C)) := by show _ = _; simp [follow1, seenT, hK, hT, h4, h5, h6]
          go_upto_region 14 with fail
          have HX5 := HX2
          have HO5 := HO2
          obtain ⟨X5, hX5⟩ : ∃ X5 : Tx, X5 = ⟨y.id, x.lsn, y.st⟩ := ⟨_, rfl⟩
          rw [← hX5] at HF
          have HG5 : Hid (x2.heap[g]? = some (.cells (txCells X5).toArray 140 (0, 0))) := by show _ = _; rw [hX5]; exact HG2.out
          clear HX2 k3 fk3 b2 fb2 hX5 k1' HG2
          refine wp_region_held_drew (S := fun w' => (w'.cell? ⟨R, 1, none⟩ = some (.map (some bt)) ∧ w'.heap[g]? = some (.cells (txCells X5).toArray 140 (0, 0)))) (by kernel_rfl) ⟨HX5.out.c1, HG5.out⟩ (fun hH => ?_)
          refine take_to 0 49 (.pointer (some ⟨R, 0, none⟩)) rfl (by kernel_rfl) (by kernel_rfl) (by kernel_rfl) (fun _ _ _ h => h) rfl (by rfl) (fun w hw => by rfl) hH ?_
          simp only [Act.put, List.setIfInBounds_toArray, List.set_cons_zero, List.set_cons_succ]
          refine take_to 1 50 (.pointer (some ⟨R, 0, none⟩)) rfl (by kernel_rfl) (by kernel_rfl) (by kernel_rfl) (fun _ _ _ h => h) rfl (by rfl) (fun w hw => by rfl) hH ?_
          simp only [Act.put, List.setIfInBounds_toArray, List.set_cons_zero, List.set_cons_succ]
          refine take_to 2 51 (.pointer (some ⟨R, 1, none⟩)) rfl (by kernel_rfl) (by kernel_rfl) (by kernel_rfl) (fun _ _ _ h => h) rfl (by rfl) (fun w hw => by rfl) hH ?_
          simp only [Act.put, List.setIfInBounds_toArray, List.set_cons_zero, List.set_cons_succ]
          refine take_to 3 52 (.map (some bt)) rfl (by kernel_rfl) (by kernel_rfl) (by kernel_rfl) (fun _ _ _ h => h) rfl (by rfl) (fun w hw => op_load _ _ 193 (.tmp 51) rfl (.pointer (some ⟨R, 1, none⟩)) _ rfl (run_loadAny w R (1) 193 _ Tryz.isAgg193 hw.1)) hH ?_
          simp only [Act.put, List.setIfInBounds_toArray, List.set_cons_zero, List.set_cons_succ]
          refine take_to 4 53 (.int .i64 x.txn) rfl (by kernel_rfl) (by kernel_rfl) (by kernel_rfl) (fun _ _ _ h => h) rfl (by rfl) (fun w hw => by rfl) hH ?_
          simp only [Act.put, List.setIfInBounds_toArray, List.set_cons_zero, List.set_cons_succ]
          refine take_to 5 54 (.agg (txCells X5).toArray) rfl (by kernel_rfl) (by kernel_rfl) (by kernel_rfl) (fun _ _ _ h => h) rfl (by rfl) (fun w hw => op_load _ _ 140 (.tmp 5) rfl (.pointer (some ⟨g, 0, none⟩)) _ rfl (run_load140 w g X5 hw.2)) hH ?_
          simp only [Act.put, List.setIfInBounds_toArray, List.set_cons_zero, List.set_cons_succ]
          obtain ⟨w6, q1, q2, q3⟩ := (HX5.out.stayD (below_drewN _ _ 1)).mt.store (by omega) X5 hok.txn
          have hS6 : w6.cell? ⟨R, 1, none⟩ = some (.map (some bt)) ∧ w6.heap[g]? = some (.cells (txCells X5).toArray 140 (0, 0)) :=
            ⟨(World.cell?_of_block (a := ⟨R, 1, none⟩) (q3.block R (World.block_lt_of_cell? _ _ hH.1) (by simpa using HX5.out.n1))).trans hH.1, (q3.block g (Array.getElem?_eq_some_iff.1 hH.2).1 (by simpa using hgt)).trans hH.2⟩
          refine step_map_to 6 w6 rfl (by kernel_rfl) rfl (by rfl) 193 (.tmp 52) (.tmp 53) (.tmp 54) rfl _ _ _ rfl rfl rfl q1 hS6 ?_
          refine wpAnyH_done (by kernel_rfl) ?_ _
          have HX6 := hide ((HX5.out.stayD (below_drewN _ _ 1)).grownT q3 q2)
          have HO6 : Hid (Off [R, bt] w w6) := (HO5.out.drewN 1).grown q3 (fun k hk => by cases hk; exact .inl (by simp))
          clear hH hS6 q1 q2 q3
          go_wp2
          go_end0
          refine ⟨rfl, HO6.out, n + 1, by omega, ?_⟩
          rw [HF.out]
          exact HX6.out
end
end Go.Proofs.YteeembildppgmaaGreat.Rd
