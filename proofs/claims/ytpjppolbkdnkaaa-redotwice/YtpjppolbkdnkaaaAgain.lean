/- lsnOf, again: one record of the second pass. -/
import Derived.Test.YtpjppolbkdnkaaaSoil
import Derived.Deep.CutBlock
namespace Go.Proofs.Ytpjppolbkdnkaaa
open Go.RowKit
set_option linter.unusedVariables false
set_option linter.unusedSimpArgs false

theorem op_geq3 (ρ : Operand → Value) (o : Oper) (x y : Operand) (tt : TypeId) (ho : o.op = .binOp .geq 3 x y tt) (n m : Int) (hx : ρ x = .int .i64 n) (hy : ρ y = .int .i64 m) (b : Bool) (hb : decide (n ≥ m) = b) {w : World} : (execOp ρ o).run Try.prog w = .ok (.value (.bool b)) w := by
  have hu := Try.underlying3
  unfold execOp
  simp only [ho, hx, hy]
  subst hb
  simp [go_sem, hu]
theorem Try.info3 : (Try.prog.info? 3).map (fun i => (i.zero, i.size, i.bytes)) = some (some (.int .i64 0), 1, 8) := by kernel_rfl
theorem Try.buildInt (l : Int) (w : World) : (Instr.buildSlice 49 1 #[(0, .int .i64 l)]).run Try.prog w = .ok (.slice (some ⟨w.heap.size, 0, none⟩) 1 1) (w.alloc (.cells #[.int .i64 l] 3)) := by kernel_rfl
theorem Try.buildIntN (l : Int) (W : World) : (do pure (Next.value (← Instr.buildSlice 49 1 #[(0, .int .i64 l)])) : Sem Next).run Try.prog W = .ok (.value (.slice (some ⟨W.heap.size, 0, none⟩) 1 1)) (W.alloc (.cells #[.int .i64 l] 3)) := by
  rw [Sem.run_bind, Try.buildInt]; rfl
theorem run_store49 (w : World) (p k : Nat) (u : Value) (ao : Option Addr) (m c : Nat) (h : w.cell? ⟨p, k, none⟩ = some u) (hf : w.frozen? ⟨p, k, none⟩ = false) :
    (Instr.storeAt 49 (.pointer (some ⟨p, k, none⟩)) (.slice ao m c)).run Try.prog w = .ok () (w.setCell ⟨p, k, none⟩ (.slice ao m c)) := by
  simp [go_sem, h, hf]
def intCells (l : List Int) : List Value := l.map (.int .i64)
theorem intCells_snoc (l : List Int) (x : Int) : intCells (l ++ [x]) = intCells l ++ [.int .i64 x] := by simp [intCells]
theorem Try.enters58 (args : Array Value) (w : World) : (callFunc 58 args).run Try.prog w = .ok (.enter 58 args) w := by kernel_rfl
/-- A call through a function value, in a plain region. -/
theorem wpList_callv1 {P : Program} {ops : Array Oper} {rest : List Oper} {o : Oper} {a : Act} {w : World} {Q : Exit → Act → World → Prop} {R : Ending → World → Prop} (hg : o.guard = none) (f : Nat) (cb : Array Value) (x y : Operand) (ts : Array TypeId)
    (hop : o.op = Op.call { callee := Callee.value x, args := #[y], argTypes := ts }) (vy : Value) (hx : a.eval x = .func (.func f) #[] cb) (hy : a.eval y = vy) (hcf : ∀ args w, (callFunc f args).run P w = .ok (.enter f args) w) (hc : Calls P f (#[vy] ++ cb) w R)
    (hK : ∀ e w', R e w' → ∃ v, e = .returned v ∧ wpList P ops Q rest (a.put o.dst v) w') : wpList P ops Q (o :: rest) a w := by
  refine wpList_plain hg fun K hK' => ?_
  have hrun : (execOp a.eval o).run P w = .ok (.enter f (#[vy] ++ cb)) w := by
    unfold execOp
    simp [hop, resolve, hx, Deferred.ofValue, invoke, hy]
    exact hcf _ _
  unfold Oper.wp
  rw [hrun, Oper.upon_enter]
  refine hc.mono ?_
  intro e w' hR
  obtain ⟨v, rfl, hW⟩ := hK e w' hR
  exact hK' _ _ hW
/-- What is asked for a page's LSN. -/
structure Ask where
  g : Nat
  cb : Array Value
  f : Int → Int
  held : World → Prop
  stay : ∀ w w', held w → Below w.heap.size w w' → held w'
  enters : ∀ args w, (callFunc g args).run Try.prog w = .ok (.enter g args) w
  fin : ∀ p, In64 (f p)
  call : ∀ w p, held w → In64 p → Calls Try.prog g (#[.int .i64 p] ++ cb) w fun e w' => e = .returned (.int .i64 (f p)) ∧ Below w.heap.size w w'
def Ask.fv (A : Ask) : Value := .func (.func A.g) #[] A.cb
structure RedoIs (A : Ask) (w0 w : World) (R bd bh n m : Nat) (lg : Sv) (red : Value) (f h : Int → Option Int) (out : List Int) : Prop where
  head : w.heap[R]? = some (.cells #[.slice lg.a lg.n lg.c, .map none, .map (some bd), .int .i64 0, .func (.func A.g) #[] A.cb, .map (some bh), red, .slice none 0 0, .slice none 0 0] 72 (0, 0))
  md : MapI w bd n f
  mh : MapI w bh m h
  own : w.ownsRow 0 3 1 red out.length (intCells out)
  below : Below w0.heap.size w0 w
  r0 : w0.heap.size ≤ R
  d0 : w0.heap.size ≤ bd
  h0 : w0.heap.size ≤ bh
  o0 : ∀ k, red.ownBlock = some k → w0.heap.size ≤ k
  n1 : R ≠ bd
  n2 : R ≠ bh
  n3 : bd ≠ bh
  n4 : red.ownBlock ≠ some R
  n5 : red.ownBlock ≠ some bd
  n6 : red.ownBlock ≠ some bh
  ask : A.held w0
section
variable {A : Ask} {w0 w w' : World} {R bd bh n m : Nat} {lg : Sv} {red : Value} {f h : Int → Option Int} {out : List Int}
theorem RedoIs.c0 (x : RedoIs A w0 w R bd bh n m lg red f h out) : w.cell? ⟨R, 0, none⟩ = some (.slice lg.a lg.n lg.c) := by rw [cell_of_row w R 0 _ _ _ x.head]; rfl
theorem RedoIs.c2 (x : RedoIs A w0 w R bd bh n m lg red f h out) : w.cell? ⟨R, 2, none⟩ = some (.map (some bd)) := by rw [cell_of_row w R 2 _ _ _ x.head]; rfl
theorem RedoIs.c4 (x : RedoIs A w0 w R bd bh n m lg red f h out) : w.cell? ⟨R, 4, none⟩ = some (.func (.func A.g) #[] A.cb) := by rw [cell_of_row w R 4 _ _ _ x.head]; rfl
theorem RedoIs.c5 (x : RedoIs A w0 w R bd bh n m lg red f h out) : w.cell? ⟨R, 5, none⟩ = some (.map (some bh)) := by rw [cell_of_row w R 5 _ _ _ x.head]; rfl
theorem RedoIs.c6 (x : RedoIs A w0 w R bd bh n m lg red f h out) : w.cell? ⟨R, 6, none⟩ = some red := by rw [cell_of_row w R 6 _ _ _ x.head]; rfl
theorem RedoIs.lt (x : RedoIs A w0 w R bd bh n m lg red f h out) : R < w.heap.size := (Array.getElem?_eq_some_iff.1 x.head).1
/-- New blocks alone. -/
theorem RedoIs.stayD (x : RedoIs A w0 w R bd bh n m lg red f h out) (hb : Below w.heap.size w w') : RedoIs A w0 w' R bd bh n m lg red f h out :=
  { x with
    head := (hb.block R x.lt).trans x.head
    md := x.md.stay (hb.block bd x.md.lt)
    mh := x.mh.stay (hb.block bh x.mh.lt)
    own := owns_of_block x.own (fun k hk => hb.block k (x.own.lt k hk).2)
    below := x.below.trans (hb.mono x.below.size) }
theorem RedoIs.putH (x : RedoIs A w0 w R bd bh n m lg red f h out) (k v : Int) (hk : In64 k) (hv : In64 v) (hm : m ≤ 1000000) :
    ∃ w', (Instr.mapUpdate 68 (.map (some bh)) (.int .i64 k) (.int .i64 v)).run Try.prog w = .ok () w' ∧ RedoIs A w0 w' R bd bh n (m + 1) lg red f (updI h k v) out ∧ ∀ b, b < w.heap.size → b ≠ bh → w'.heap[b]? = w.heap[b]? := by
  obtain ⟨w', r1, r2, r3⟩ := x.mh.store (by omega) hk hv
  have hb : ∀ b, b < w.heap.size → b ≠ bh → w'.heap[b]? = w.heap[b]? := fun b hl hn => r3.block b hl (by simpa using hn)
  exact ⟨w', r1, { x with
    head := (hb R x.lt x.n2).trans x.head
    md := x.md.stay (hb bd x.md.lt x.n3)
    mh := r2
    own := owns_of_block x.own (fun k hk => hb k (x.own.lt k hk).2 (fun e => x.n6 (by rw [← e]; exact hk)))
    below := x.below.trans (((Off.refl [bh] w).grown r3 (fun k hk => by cases hk; exact .inl (by simp))).below x.below.size (fun k hk => by simp at hk; rw [hk]; exact x.h0)) }, hb⟩
theorem RedoIs.addOut (x : RedoIs A w0 w R bd bh n m lg red f h out) (l : Int) {v4 : Value} {w1 w4 : World} (hw1 : Off [] w w1) (r1 : w4.ownsRow 0 3 1 v4 (out.length + 1) (intCells out ++ [.int .i64 l])) (r2 : w1.grownBy w4 red.ownBlock)
    (r3 : ∀ k, v4.ownBlock = some k → red.ownBlock = some k ∨ w1.heap.size ≤ k) :
    RedoIs A w0 (w4.setCell ⟨R, 6, none⟩ v4) R bd bh n m lg v4 f h (out ++ [l]) ∧ Off (R :: red.ownBlock.toList) w (w4.setCell ⟨R, 6, none⟩ v4) ∧ w4.cell? ⟨R, 6, none⟩ = some red ∧ w4.frozen? ⟨R, 6, none⟩ = false := by
  have lR := x.lt
  have lD := x.md.lt
  have lH := x.mh.lt
  have hsz := hw1.size
  have b1 : ∀ k, k < w.heap.size → w1.heap[k]? = w.heap[k]? := fun k hk => hw1.block k hk (by simp)
  have eR : w4.heap[R]? = w.heap[R]? := (r2.block R (by omega) (Ne.symm x.n4)).trans (b1 R lR)
  have eD : w4.heap[bd]? = w.heap[bd]? := (r2.block bd (by omega) (Ne.symm x.n5)).trans (b1 bd lD)
  have eH : w4.heap[bh]? = w.heap[bh]? := (r2.block bh (by omega) (Ne.symm x.n6)).trans (b1 bh lH)
  have nn : ∀ g, g < w.heap.size → red.ownBlock ≠ some g → v4.ownBlock ≠ some g := fun g hg hn e => by
    rcases r3 g e with h1 | h1
    · exact hn h1
    · omega
  have m4 := nn R lR x.n4
  have hO : Off (R :: red.ownBlock.toList) w (w4.setCell ⟨R, 6, none⟩ v4) := ((((Off.refl _ w).trans hw1 (by simp)).grown r2 (fun k hk => .inl (by simp [hk])))).setCell _ _ (.inl (by simp))
  have hs0 := x.below.size
  refine ⟨{ x with
    head := by rw [heap_setCell_same w4 R 6 _ _ _ (eR.trans x.head)]; rfl
    md := x.md.stay (by rw [heap_setCell_other w4 _ bd _ (by simpa using Ne.symm x.n1)]; exact eD)
    mh := x.mh.stay (by rw [heap_setCell_other w4 _ bh _ (by simpa using Ne.symm x.n2)]; exact eH)
    own := by
      rw [intCells_snoc, List.length_append]
      exact owns_of_block r1 (fun k hk => heap_setCell_other w4 _ k _ (fun e => m4 (by have e : k = R := e; rw [hk, e])))
    below := x.below.trans (hO.below hs0 (fun k hk => by
      rcases List.mem_cons.1 hk with h1 | h1
      · rw [h1]; exact x.r0
      · exact x.o0 k (by simpa using h1)))
    o0 := fun k hk => by
      rcases r3 k hk with h1 | h1
      · exact x.o0 k h1
      · omega
    n4 := m4
    n5 := nn bd lD x.n5
    n6 := nn bh lH x.n6 }, hO, ?_, ?_⟩
  · rw [cell_of_row w4 R 6 _ _ _ (eR.trans x.head)]; rfl
  · exact frozen_of_row w4 R 6 _ _ (eR.trans x.head)
set_option maxHeartbeats 1000000 in
set_option maxRecDepth 100000 in
theorem lsnOf_any (x : RedoIs A w0 w R bd bh n m lg red f h out) (p : Int) (hp : In64 p) (hm : m ≤ 1000000) :
    Calls Try.prog 58 #[.pointer (some ⟨R, 0, none⟩), .int .i64 p] w fun e w' => e = .returned (.int .i64 ((h p).getD (A.f p))) ∧ RedoIs A w0 w' R bd bh n (m + 1) lg red f (if (h p).isSome = true then h else updI h p (A.f p)) out ∧ ∀ b, b < w.heap.size → (b ≠ R ∧ b ≠ bh ∧ red.ownBlock ≠ some b) → w'.heap[b]? = w.heap[b]? := by
  have c5 := x.c5
  have c4 := x.c4
  have hl := x.mh.look hp
  cases hh : h p with
  | some y =>
    rw [hh] at hl
    simp only [Option.getD_some, Option.isSome_some] at hl ⊢
    have X := hide x
    clear x c4
    go_enter Try.func58, Try.ntmps58
    go_wp2
    go_ret
    refine ⟨rfl, ?_, fun b hb => by intros; rfl⟩
    obtain ⟨D, h1, h2⟩ := X.out.mh
    exact { X.out with mh := ⟨D, h1.mono (Nat.le_succ _), h2⟩ }
  | none =>
    rw [hh] at hl
    simp only [Option.getD_none, Option.isSome_none] at hl ⊢
    have HC := hide (A.call w p (A.stay _ _ x.ask x.below) hp)
    have HE := A.enters
    have X := hide x
    clear x
    go_enter Try.func58, Try.ntmps58
    go_upto_region 3 with fail
    clear hl c5
    go_wp2_with (refine wpList_callv1 (by rfl) A.g A.cb (.tmp 21) (.tmp 22) #[3] (by rfl) (.int .i64 p) (by rfl) (by rfl) HE HC.out ?_; rintro e w2 ⟨rfl, hb2⟩; refine ⟨_, rfl, ?_⟩; have X2 := hide (X.out.stayD hb2); have c52 := X2.out.c5; obtain ⟨w3, q1, q2, q3⟩ := X2.out.putH p (A.f p) hp (A.fin p) hm; have Q := hide (And.intro q2 q3); have HB2 := hide hb2; clear q2 q3 hb2)
    go_ret
    refine ⟨rfl, Q.out.1, fun b hb n1 n2 n3 => ?_⟩
    exact (Q.out.2 b (Nat.lt_of_lt_of_le hb HB2.out.size) n2).trans (HB2.out.block b hb)

/-- What one record does to what the pass knows of pages, and to what it tells. -/
def again1 (A : Ask) (f : Int → Option Int) (s : (Int → Option Int) × List Int) (x : Ln) : (Int → Option Int) × List Int :=
  if x.changes = true ∧ (f x.page).isSome = true ∧ ¬ (f x.page).getD 0 > x.lsn then
    (if (s.1 x.page).getD (A.f x.page) ≥ x.lsn then ((if (s.1 x.page).isSome = true then s.1 else updI s.1 x.page (A.f x.page)), s.2)
     else (updI (if (s.1 x.page).isSome = true then s.1 else updI s.1 x.page (A.f x.page)) x.page x.lsn, s.2 ++ [x.lsn]))
  else s
set_option maxHeartbeats 2000000 in
set_option maxRecDepth 100000 in
theorem again_any (X : RedoIs A w0 w R bd bh n m lg red f h out) (x : Ln) (hok : x.ok) (hm : m ≤ 900000) (ho : out.length ≤ 1000000) :
    Calls Try.prog 41 #[.pointer (some ⟨R, 0, none⟩), .agg (lnCells x).toArray] w fun e w' => e = .returned (.tuple #[]) ∧ ∃ red' m', m' ≤ m + 2 ∧ RedoIs A w0 w' R bd bh n m' lg red' f (again1 A f (h, out) x).1 (again1 A f (h, out) x).2 := by
  have HX := hide X
  obtain ⟨g, hgs⟩ : ∃ g, w.heap.size = g := ⟨_, rfl⟩
  obtain ⟨x1, hx1⟩ : ∃ x1, w.alloc (.cells (lnCells x).toArray 34) = x1 := ⟨_, rfl⟩
  have hB1 : Below w.heap.size w x1 := by rw [← hx1]; exact (Below.refl _ _).alloc (Nat.le_refl _) _
  have hG1 : x1.heap[g]? = some (.cells (lnCells x).toArray 34 (0, 0)) := by rw [← hx1, ← hgs]; exact heap_alloc_new _ _
  have hgl1 : g < x1.heap.size := (Array.getElem?_eq_some_iff.1 hG1).1
  have HX1 := hide (X.stayD hB1)
  have c2 := HX1.out.c2
  have hl := HX1.out.md.look hok.page
  have d5 : x1.cell? ⟨g, 5, none⟩ = some (.int .i64 x.page) := by rw [cell_of_row _ _ _ _ _ _ hG1]; rfl
  have d0 : x1.cell? ⟨g, 0, none⟩ = some (.int .i64 x.lsn) := by rw [cell_of_row _ _ _ _ _ _ hG1]; rfl
  have HRG : Hid (x1.rangeAt g 1 (recCells x)) := fun j v hv => by
    rw [cell_of_row _ _ _ _ _ _ hG1, List.getElem?_toArray]
    unfold lnCells
    rw [Nat.add_comm 1 j, List.getElem?_cons_succ]
    exact hv
  have hgne : g ≠ R ∧ g ≠ bh ∧ red.ownBlock ≠ some g := ⟨by have := X.lt; omega, by have := X.mh.lt; omega, fun e => by have := (X.own.lt g e).2; omega⟩
  have HCH := hide (changes_any x x1)
  have hgl0 := hgs
  clear X hB1 hG1
  unfold lnCells recCells at hx1 ⊢
  unfold recCells at HRG HCH
  cases hch : x.changes with
  | false =>
    have HAG : Hid (again1 A f (h, out) x = (h, out)) := by show _ = _; unfold again1; rw [if_neg (by rw [hch]; simp)]
    rw [hch] at HCH
    clear hch
    go_enter Try.func41, Try.ntmps41
    go_upto_region 1 with fail
    first | rw [hx1, hgs] | rw [hgs] | skip
    clear hx1 hgs hgl0
    go_wp2_with (first
      | (refine wpList_load_mid (by rfl) 32 _ (by rfl) g 1 (by rfl) _ _ HRG.out Try.underlying32 rfl Try.size32n ?_)
      | (go_at_call 53; refine HCH.out.mono ?_; rintro e x2 ⟨rfl, hb2⟩; have HB2 := hide hb2; clear hb2))
    refine bodyPost_ret (results_none rfl _ _ _) rfl ?_
    exact ⟨rfl, red, m, by omega, by rw [HAG.out]; exact HX1.out.stayD HB2.out⟩
  | true =>
    rw [hch] at HCH
    cases hfp : f x.page with
    | none =>
      have HAG : Hid (again1 A f (h, out) x = (h, out)) := by show _ = _; unfold again1; rw [if_neg (by rw [hfp]; simp)]
      rw [hfp] at hl
      simp only [Option.getD_none, Option.isSome_none] at hl
      clear hch hfp
      go_enter Try.func41, Try.ntmps41
      go_upto_region 1 with fail
      first | rw [hx1, hgs] | rw [hgs] | skip
      clear hx1 hgs hgl0
      go_wp2_with (first
        | (refine wpList_load_mid (by rfl) 32 _ (by rfl) g 1 (by rfl) _ _ HRG.out Try.underlying32 rfl Try.size32n ?_)
        | (go_at_call 53; refine HCH.out.mono ?_; rintro e x2 ⟨rfl, hb2⟩; have HB2 := hide hb2; clear hb2))
      refine bodyPost_ret (results_none rfl _ _ _) rfl ?_
      exact ⟨rfl, red, m, by omega, by rw [HAG.out]; exact HX1.out.stayD HB2.out⟩
    | some y =>
      rw [hfp] at hl
      simp only [Option.getD_some, Option.isSome_some] at hl
      by_cases hy : y > x.lsn
      · have HAG : Hid (again1 A f (h, out) x = (h, out)) := by show _ = _; unfold again1; rw [if_neg (by rw [hfp]; simp; omega)]
        have hyd : decide (y > x.lsn) = true := decide_eq_true hy
        clear hch hfp
        go_enter Try.func41, Try.ntmps41
        go_upto_region 1 with fail
        first | rw [hx1, hgs] | rw [hgs] | skip
        clear hx1 hgs hgl0
        go_wp2_with (first
          | (refine wpList_load_mid (by rfl) 32 _ (by rfl) g 1 (by rfl) _ _ HRG.out Try.underlying32 rfl Try.size32n ?_)
          | (go_at_call 53; refine HCH.out.mono ?_; rintro e x2 ⟨rfl, hb2⟩; have d02 := (hb2.cell (p := ⟨g, 0, none⟩) hgl1).trans d0; have HB2 := hide hb2; clear hb2))
        refine bodyPost_ret (results_none rfl _ _ _) rfl ?_
        exact ⟨rfl, red, m, by omega, by rw [HAG.out]; exact HX1.out.stayD HB2.out⟩
      · have hyd : decide (y > x.lsn) = false := decide_eq_false hy
        obtain ⟨cur, hcur⟩ : ∃ cur, (h x.page).getD (A.f x.page) = cur := ⟨_, rfl⟩
        obtain ⟨H1, hH1⟩ : ∃ H1, (if (h x.page).isSome = true then h else updI h x.page (A.f x.page)) = H1 := ⟨_, rfl⟩
        have HAG : Hid (again1 A f (h, out) x = if cur ≥ x.lsn then (H1, out) else (updI H1 x.page x.lsn, out ++ [x.lsn])) := by
          show _ = _
          unfold again1
          rw [if_pos ⟨hch, by rw [hfp]; rfl, by rw [hfp]; exact hy⟩]
          simp only [hcur, hH1]
        have HLS := hide (fun (W : World) (hW : RedoIs A w0 W R bd bh n m lg red f h out) => lsnOf_any hW x.page hok.page (by omega))
        rw [hcur, hH1] at HLS
        clear hch hfp hcur hH1
        go_enter Try.func41, Try.ntmps41
        go_upto_region 1 with fail
        first | rw [hx1, hgs] | rw [hgs] | skip
        clear hx1 hgs hgl0
        go_upto_region 4 with (first
          | (refine wpList_load_mid (by rfl) 32 _ (by rfl) g 1 (by rfl) _ _ HRG.out Try.underlying32 rfl Try.size32n ?_)
          | (go_at_call 53; refine HCH.out.mono ?_; rintro e x2 ⟨rfl, hb2⟩; have d02 := (hb2.cell (p := ⟨g, 0, none⟩) hgl1).trans d0; have HB2 := hide hb2; clear hb2))
        have HI1 := hide (HX1.out.stayD HB2.out)
        have c0 := d02
        have hgl : g < x2.heap.size := Nat.lt_of_lt_of_le hgl1 HB2.out.size
        clear HX1 HX HRG HCH d5 d0 d02 c2 hl HB2
        by_cases hge' : cur ≥ x.lsn
        · have hge : decide (cur ≥ x.lsn) = true := decide_eq_true hge'
          rw [if_pos hge'] at HAG
          refine wp_region_held_drew (S := fun w' => w'.heap[g]? = x2.heap[g]?) (by kernel_rfl) rfl (fun hH => ?_)
          refine take_to 0 33 (.pointer (some ⟨R, 0, none⟩)) rfl (by kernel_rfl) (by kernel_rfl) (by kernel_rfl) (fun _ _ _ h => h) rfl (by rfl) (fun w hw => by rfl) hH ?_
          simp only [Act.put, List.setIfInBounds_toArray, List.set_cons_zero, List.set_cons_succ]
          refine take_to 1 34 (.int .i64 x.page) rfl (by kernel_rfl) (by kernel_rfl) (by kernel_rfl) (fun _ _ _ h => h) rfl (by rfl) (fun w hw => by rfl) hH ?_
          simp only [Act.put, List.setIfInBounds_toArray, List.set_cons_zero, List.set_cons_succ]
          refine take_to 3 36 (.pointer (some ⟨g, 0, none⟩)) rfl (by kernel_rfl) (by kernel_rfl) (by kernel_rfl) (fun _ _ _ h => h) rfl (by rfl) (fun w hw => by rfl) hH ?_
          simp only [Act.put, List.setIfInBounds_toArray, List.set_cons_zero, List.set_cons_succ]
          refine take_to 4 37 (.int .i64 x.lsn) rfl (by kernel_rfl) (by kernel_rfl) (by kernel_rfl) (fun _ _ _ h => h) rfl (by rfl) (fun w hw => op_load _ _ 3 (.tmp 36) rfl (.pointer (some ⟨g, 0, none⟩)) _ rfl (run_loadAny w g 0 3 _ Try.isAgg3 ((World.cell?_of_block (a := ⟨g, 0, none⟩) hw).trans c0))) hH ?_
          simp only [Act.put, List.setIfInBounds_toArray, List.set_cons_zero, List.set_cons_succ]
          refine step_call2_to 2 35 58 rfl (by kernel_rfl) rfl (by rfl) (.tmp 33) (.tmp 34) _ rfl _ _ rfl rfl Try.enters58 (HLS.out _ (HI1.out.stayD (below_drewN _ _ 1))) ?_
          rintro e x3 ⟨rfl, hI2, hK2⟩
          have hS2 : x3.heap[g]? = x2.heap[g]? := (hK2 g (by show g < x2.heap.size; exact hgl) hgne).trans hH
          refine ⟨_, rfl, hS2, ?_⟩
          simp only [Act.put, List.setIfInBounds_toArray, List.set_cons_zero, List.set_cons_succ]
          refine step_to 5 38 (.bool true) x3 rfl (by kernel_rfl) rfl (by rfl) (op_geq3 _ _ (.tmp 35) (.tmp 37) 3 rfl _ _ rfl rfl _ hge) hS2 ?_
          simp only [Act.put, List.setIfInBounds_toArray, List.set_cons_zero, List.set_cons_succ]
          refine wpAnyH_done (by kernel_rfl) ?_ _
          have HI2 := hide hI2
          clear hH hS2 hI2 hK2 c0
          go_wp2
          refine bodyPost_ret (results_none rfl _ _ _) rfl ?_
          exact ⟨rfl, red, m + 1, by omega, by rw [HAG.out]; exact HI2.out⟩
        · have hge : decide (cur ≥ x.lsn) = false := decide_eq_false hge'
          rw [if_neg hge'] at HAG
          refine wp_region_held_drew (S := fun w' => w'.heap[g]? = x2.heap[g]?) (by kernel_rfl) rfl (fun hH => ?_)
          refine take_to 0 33 (.pointer (some ⟨R, 0, none⟩)) rfl (by kernel_rfl) (by kernel_rfl) (by kernel_rfl) (fun _ _ _ h => h) rfl (by rfl) (fun w hw => by rfl) hH ?_
          simp only [Act.put, List.setIfInBounds_toArray, List.set_cons_zero, List.set_cons_succ]
          refine take_to 1 34 (.int .i64 x.page) rfl (by kernel_rfl) (by kernel_rfl) (by kernel_rfl) (fun _ _ _ h => h) rfl (by rfl) (fun w hw => by rfl) hH ?_
          simp only [Act.put, List.setIfInBounds_toArray, List.set_cons_zero, List.set_cons_succ]
          refine take_to 3 36 (.pointer (some ⟨g, 0, none⟩)) rfl (by kernel_rfl) (by kernel_rfl) (by kernel_rfl) (fun _ _ _ h => h) rfl (by rfl) (fun w hw => by rfl) hH ?_
          simp only [Act.put, List.setIfInBounds_toArray, List.set_cons_zero, List.set_cons_succ]
          refine take_to 4 37 (.int .i64 x.lsn) rfl (by kernel_rfl) (by kernel_rfl) (by kernel_rfl) (fun _ _ _ h => h) rfl (by rfl) (fun w hw => op_load _ _ 3 (.tmp 36) rfl (.pointer (some ⟨g, 0, none⟩)) _ rfl (run_loadAny w g 0 3 _ Try.isAgg3 ((World.cell?_of_block (a := ⟨g, 0, none⟩) hw).trans c0))) hH ?_
          simp only [Act.put, List.setIfInBounds_toArray, List.set_cons_zero, List.set_cons_succ]
          refine step_call2_to 2 35 58 rfl (by kernel_rfl) rfl (by rfl) (.tmp 33) (.tmp 34) _ rfl _ _ rfl rfl Try.enters58 (HLS.out _ (HI1.out.stayD (below_drewN _ _ 1))) ?_
          rintro e x3 ⟨rfl, hI2, hK2⟩
          have hS2 : x3.heap[g]? = x2.heap[g]? := (hK2 g (by show g < x2.heap.size; exact hgl) hgne).trans hH
          refine ⟨_, rfl, hS2, ?_⟩
          simp only [Act.put, List.setIfInBounds_toArray, List.set_cons_zero, List.set_cons_succ]
          refine step_to 5 38 (.bool false) x3 rfl (by kernel_rfl) rfl (by rfl) (op_geq3 _ _ (.tmp 35) (.tmp 37) 3 rfl _ _ rfl rfl _ hge) hS2 ?_
          simp only [Act.put, List.setIfInBounds_toArray, List.set_cons_zero, List.set_cons_succ]
          refine wpAnyH_done (by kernel_rfl) ?_ _
          have HI2 := hide hI2
          have k5 := hI2.c5
          have c0' := (World.cell?_of_block (a := ⟨g, 0, none⟩) hS2).trans c0
          clear hH hS2 hI2 hK2 c0
          go_wp2
          refine wp_region_held_drew (S := fun w' => w'.cell? ⟨R, 5, none⟩ = some (.map (some bh)) ∧ w'.cell? ⟨g, 0, none⟩ = some (.int .i64 x.lsn)) (by kernel_rfl) ⟨k5, c0'⟩ (fun hH => ?_)
          refine take_to 0 39 (.pointer (some ⟨R, 0, none⟩)) rfl (by kernel_rfl) (by kernel_rfl) (by kernel_rfl) (fun _ _ _ h => h) rfl (by rfl) (fun w hw => by rfl) hH ?_
          simp only [Act.put, List.setIfInBounds_toArray, List.set_cons_zero, List.set_cons_succ]
          refine take_to 1 40 (.pointer (some ⟨R, 0, none⟩)) rfl (by kernel_rfl) (by kernel_rfl) (by kernel_rfl) (fun _ _ _ h => h) rfl (by rfl) (fun w hw => by rfl) hH ?_
          simp only [Act.put, List.setIfInBounds_toArray, List.set_cons_zero, List.set_cons_succ]
          refine take_to 2 41 (.pointer (some ⟨R, 5, none⟩)) rfl (by kernel_rfl) (by kernel_rfl) (by kernel_rfl) (fun _ _ _ h => h) rfl (by rfl) (fun w hw => by rfl) hH ?_
          simp only [Act.put, List.setIfInBounds_toArray, List.set_cons_zero, List.set_cons_succ]
          refine take_to 3 42 (.map (some bh)) rfl (by kernel_rfl) (by kernel_rfl) (by kernel_rfl) (fun _ _ _ h => h) rfl (by rfl) (fun w hw => op_load _ _ 68 (.tmp 41) rfl (.pointer (some ⟨R, 5, none⟩)) _ rfl (run_loadAny w R (5) 68 _ Try.isAgg68 hw.1)) hH ?_
          simp only [Act.put, List.setIfInBounds_toArray, List.set_cons_zero, List.set_cons_succ]
          refine take_to 4 43 (.int .i64 x.page) rfl (by kernel_rfl) (by kernel_rfl) (by kernel_rfl) (fun _ _ _ h => h) rfl (by rfl) (fun w hw => by rfl) hH ?_
          simp only [Act.put, List.setIfInBounds_toArray, List.set_cons_zero, List.set_cons_succ]
          refine take_to 5 44 (.pointer (some ⟨g, 0, none⟩)) rfl (by kernel_rfl) (by kernel_rfl) (by kernel_rfl) (fun _ _ _ h => h) rfl (by rfl) (fun w hw => by rfl) hH ?_
          simp only [Act.put, List.setIfInBounds_toArray, List.set_cons_zero, List.set_cons_succ]
          refine take_to 6 45 (.int .i64 x.lsn) rfl (by kernel_rfl) (by kernel_rfl) (by kernel_rfl) (fun _ _ _ h => h) rfl (by rfl) (fun w hw => op_load _ _ 3 (.tmp 44) rfl (.pointer (some ⟨g, 0, none⟩)) _ rfl (run_loadAny w g (0) 3 _ Try.isAgg3 hw.2)) hH ?_
          simp only [Act.put, List.setIfInBounds_toArray, List.set_cons_zero, List.set_cons_succ]
          obtain ⟨w5, q1, q2, q3⟩ := (HI2.out.stayD (below_drewN _ _ 1)).putH x.page x.lsn hok.page hok.lsn (by omega)
          have hS5 : w5.cell? ⟨R, 5, none⟩ = some (.map (some bh)) ∧ w5.cell? ⟨g, 0, none⟩ = some (.int .i64 x.lsn) := ⟨q2.c5, (World.cell?_of_block (a := ⟨g, 0, none⟩) (q3 g (World.block_lt_of_cell? _ _ hH.2) hgne.2.1)).trans hH.2⟩
          refine step_map_to 7 w5 rfl (by kernel_rfl) rfl (by rfl) 68 (.tmp 42) (.tmp 43) (.tmp 45) rfl _ _ _ rfl rfl rfl q1 hS5 ?_
          refine wpAnyH_done (by kernel_rfl) ?_ _
          have HI5 := hide q2
          have c05 := hS5.2
          obtain ⟨ao, mo, co, hred⟩ := own_form q2.own
          have k6 := q2.c6
          rw [hred] at k6
          have hgl5 : g < w5.heap.size := World.block_lt_of_cell? _ _ c05
          have HOWN : Hid ((w5.drew.alloc (.cells #[.int .i64 x.lsn] 3)).ownsRow 0 3 1 (.slice ao mo co) out.length (intCells out)) := by rw [← hred]; exact owns_of_block q2.own (fun b hb => Below.heap_alloc _ _ _ (q2.own.lt b hb).2)
          have HNW : Hid ((w5.drew.alloc (.cells #[.int .i64 x.lsn] 3)).heap[w5.heap.size]? = some (.cells [.int .i64 x.lsn].toArray 3 (0, 0))) := heap_alloc_new w5.drew _
          have HSRC := hide (src_of_block HNW.out)
          have HO1 : Hid (Off [] w5 (w5.drew.alloc (.cells #[.int .i64 x.lsn] 3))) := ((Off.refl _ w5).drew).alloc _
          have HS1 : Hid ((w5.drew.alloc (.cells #[.int .i64 x.lsn] 3)).cell? ⟨g, 0, none⟩ = some (.int .i64 x.lsn)) := (World.cell?_of_block (a := ⟨g, 0, none⟩) (HO1.out.block g hgl5 (by simp))).trans c05
          have HK6 : Hid ((w5.drew.alloc (.cells #[.int .i64 x.lsn] 3)).cell? ⟨R, 6, none⟩ = some (.slice ao mo co)) := (World.cell?_of_block (a := ⟨R, 6, none⟩) (HO1.out.block R q2.lt (by simp))).trans k6
          subst hred
          clear hH hS5 q1 q2 q3 HNW k5 c0'
          go_wp2
          refine wp_region_held_drew (S := fun w' => w'.cell? ⟨g, 0, none⟩ = some (.int .i64 x.lsn)) (by kernel_rfl) c05 (fun hH => ?_)
          refine take_to 0 46 (.pointer (some ⟨R, 0, none⟩)) rfl (by kernel_rfl) (by kernel_rfl) (by kernel_rfl) (fun _ _ _ h => h) rfl (by rfl) (fun w hw => by rfl) hH ?_
          simp only [Act.put, List.setIfInBounds_toArray, List.set_cons_zero, List.set_cons_succ]
          refine take_to 1 47 (.pointer (some ⟨R, 0, none⟩)) rfl (by kernel_rfl) (by kernel_rfl) (by kernel_rfl) (fun _ _ _ h => h) rfl (by rfl) (fun w hw => by rfl) hH ?_
          simp only [Act.put, List.setIfInBounds_toArray, List.set_cons_zero, List.set_cons_succ]
          refine take_to 2 48 (.pointer (some ⟨R, 0, none⟩)) rfl (by kernel_rfl) (by kernel_rfl) (by kernel_rfl) (fun _ _ _ h => h) rfl (by rfl) (fun w hw => by rfl) hH ?_
          simp only [Act.put, List.setIfInBounds_toArray, List.set_cons_zero, List.set_cons_succ]
          refine take_to 3 49 (.pointer (some ⟨R, 6, none⟩)) rfl (by kernel_rfl) (by kernel_rfl) (by kernel_rfl) (fun _ _ _ h => h) rfl (by rfl) (fun w hw => by rfl) hH ?_
          simp only [Act.put, List.setIfInBounds_toArray, List.set_cons_zero, List.set_cons_succ]
          refine take_to 5 51 (.pointer (some ⟨g, 0, none⟩)) rfl (by kernel_rfl) (by kernel_rfl) (by kernel_rfl) (fun _ _ _ h => h) rfl (by rfl) (fun w hw => by rfl) hH ?_
          simp only [Act.put, List.setIfInBounds_toArray, List.set_cons_zero, List.set_cons_succ]
          refine take_to 6 52 (.int .i64 x.lsn) rfl (by kernel_rfl) (by kernel_rfl) (by kernel_rfl) (fun _ _ _ h => h) rfl (by rfl) (fun w hw => op_load _ _ 3 (.tmp 51) rfl (.pointer (some ⟨g, 0, none⟩)) _ rfl (run_loadAny w g (0) 3 _ Try.isAgg3 hw)) hH ?_
          simp only [Act.put, List.setIfInBounds_toArray, List.set_cons_zero, List.set_cons_succ]
          refine wpAnyH_all (rs := [4, 7]) (by kernel_rfl) (by simp) ?_
          intro n hn
          rcases (by simpa using hn : n = 4 ∨ n = 7) with rfl | rfl
          refine op_to 50 (.slice ao mo co) _ rfl rfl (by rfl) (op_load _ _ 49 (.tmp 49) rfl (.pointer (some ⟨R, 6, none⟩)) _ rfl (run_loadAny _ R 6 49 _ Try.isAgg49 k6)) ⟨hH, ?_⟩
          simp only [Act.put, List.setIfInBounds_toArray, List.set_cons_zero, List.set_cons_succ]
          refine step_to 7 53 (.slice (some ⟨w5.heap.size, 0, none⟩) 1 1) (w5.drew.alloc (.cells #[.int .i64 x.lsn] 3)) rfl (by kernel_rfl) rfl (by rfl) (by rw [buildSlice_op _ _ 49 1 0 (.tmp 52) rfl _ rfl]; exact Try.buildIntN _ _) HS1.out ?_
          simp only [Act.put, List.setIfInBounds_toArray, List.set_cons_zero, List.set_cons_succ]
          rotate_left
          refine op_to 53 (.slice (some ⟨w5.heap.size, 0, none⟩) 1 1) (w5.drew.alloc (.cells #[.int .i64 x.lsn] 3)) rfl rfl (by rfl) (by rw [buildSlice_op _ _ 49 1 0 (.tmp 52) rfl _ rfl]; exact Try.buildIntN _ _) ⟨HS1.out, ?_⟩
          simp only [Act.put, List.setIfInBounds_toArray, List.set_cons_zero, List.set_cons_succ]
          refine step_to 4 50 (.slice ao mo co) _ rfl (by kernel_rfl) rfl (by rfl) (op_load _ _ 49 (.tmp 49) rfl (.pointer (some ⟨R, 6, none⟩)) _ rfl (run_loadAny _ R 6 49 _ Try.isAgg49 HK6.out)) HS1.out ?_
          simp only [Act.put, List.setIfInBounds_toArray, List.set_cons_zero, List.set_cons_succ]
          all_goals
            refine step_append_to 8 54 rfl (by kernel_rfl) rfl rfl (.tmp 50) (.tmp 53) 49 rfl 3 (.int .i64 0) 1 8 Try.underlying49 Try.info3 rfl (by omega) (.slice ao mo co) out.length (intCells out) rfl HOWN.out ⟨w5.heap.size, 0, none⟩ 1 1 [.int .i64 x.lsn] rfl rfl HSRC.out (by intro u hu; simp at hu; subst hu; rfl) (by simp only [maxLen]; omega) (by omega) (fun v4 w6 ra rb rc => ?_)
            obtain ⟨hI6, hK6, q1, q2⟩ := HI5.out.addOut x.lsn HO1.out ra rb rc
            have hS6 : w6.cell? ⟨g, 0, none⟩ = some (.int .i64 x.lsn) := (World.cell?_of_block (a := ⟨g, 0, none⟩) (rb.block g (Nat.lt_of_lt_of_le hgl5 HO1.out.size) (fun e => hgne.2.2 e.symm))).trans HS1.out
            refine ⟨hS6, ?_⟩
            simp only [Act.put, List.setIfInBounds_toArray, List.set_cons_zero, List.set_cons_succ]
            obtain ⟨ao4, m4, c4, rfl⟩ := own_form ra
            refine step_to 9 55 (.pointer (some ⟨R, 0, none⟩)) w6 rfl (by kernel_rfl) rfl (by rfl) (rfl) hS6 ?_
            simp only [Act.put, List.setIfInBounds_toArray, List.set_cons_zero, List.set_cons_succ]
            refine step_to 10 56 (.pointer (some ⟨R, 6, none⟩)) w6 rfl (by kernel_rfl) rfl (by rfl) (by kernel_rfl) hS6 ?_
            simp only [Act.put, List.setIfInBounds_toArray, List.set_cons_zero, List.set_cons_succ]
            have hS7 : (w6.setCell ⟨R, 6, none⟩ (.slice ao4 m4 c4)).cell? ⟨g, 0, none⟩ = some (.int .i64 x.lsn) := (World.cell?_of_block (a := ⟨g, 0, none⟩) (heap_setCell_other w6 _ g _ (by show g ≠ R; exact hgne.1))).trans hS6
            refine step_store_to 11 _ rfl (by kernel_rfl) rfl (by rfl) 49 (.tmp 56) (.tmp 54) rfl _ _ rfl rfl (run_store49 w6 R 6 _ ao4 m4 c4 q1 q2) hS7 ?_
            refine wpAnyH_done (by kernel_rfl) ?_ _
            have HI7 := hide hI6
            clear hH hS6 hS7 ra rb rc q1 q2 hI6 hK6 HSRC HOWN HO1 HS1 HK6 c05 k6
            go_wp2
            go_end0
            exact ⟨rfl, _, m + 2, by omega, by rw [HAG.out]; exact HI7.out⟩

end
end Go.Proofs.Ytpjppolbkdnkaaa
