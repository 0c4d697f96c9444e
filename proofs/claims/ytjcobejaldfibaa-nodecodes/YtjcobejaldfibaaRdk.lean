/- The program's reader: kid, text. -/
import Derived.Test.YtjcobejaldfibaaRdr
import Derived.Test.YtjcobejaldfibaaPta
import Derived.Test.YtjcobejaldfibaaLft
import Derived.Test.YtjcobejaldfibaaCut
namespace Go.Proofs.Ytjcobejaldfibaa
open Go.RowKit
set_option linter.unusedVariables false
set_option linter.unusedSimpArgs false

theorem wpAnyH_strong {P : Program} {ops : Array Oper} {Q : Exit → Act → World → Prop} {md : Region.Mode} {S S' : World → Prop} (hS : ∀ w, S' w → S w) : ∀ (fuel : Nat) (listed : Array Bool) (a : Act) (w : World), wpAnyH P md ops Q S' fuel listed a w → wpAnyH P md ops Q S fuel listed a w
  | 0, _, _, _, h => h
  | fuel + 1, _, _, _, h => ⟨h.1, fun i hi => wpOp_mono (fun a' w' h' => ⟨hS _ h'.1, wpAnyH_strong hS fuel _ a' w' h'.2⟩) (h.2 i hi)⟩
def rd (s : Nat) (R : List UInt8) : Option (Nat × List UInt8) := if s ≤ R.length then some (beval (R.take s), R.drop s) else none
def rdT (R : List UInt8) : Option (List UInt8 × List UInt8) :=
  match rd 2 R with
  | none => none
  | some (n, R1) => if n ≤ R1.length then some (R1.take n, R1.drop n) else none
/-- Where an append's row lies: where it lay, or behind all that was there. -/
theorem append_where {w w' : World} {base n m : Nat} {ty : TypeId} {v v' x : Value} {xs news : List Value} (hown : w.ownsRow base 28 1 v n xs) (hx : Row w x m news) (hl : news.length = m) (h1 : ∀ u ∈ news, u.oneCell' = true) (h63 : (n + m) * 24 ≤ 140737488355328) (hm : 0 < m)
    (hr : (Builtin.append_ #[22, 22] ty #[v, x]).run Try.prog w = .ok v' w') : ∀ q, v'.ownBlock = some q → v.ownBlock = some q ∨ w.heap.size ≤ q := by
  obtain ⟨i0, hi0, hz0, hzs, hzb⟩ := Try.info28p
  obtain ⟨ao, c, rfl, c1, c2, hrow⟩ := hx
  obtain ⟨g', o', ea, hrng⟩ := hrow (fun e => by rw [e] at hl; simp at hl; omega)
  subst ea
  have hsrc : Src Try.prog i0.size 22 (.slice (some ⟨g', o', none⟩) m c) m news w := by
    rw [hzs]
    exact Src.ofSlice w Try.underlying22 ⟨g', o', none⟩ m c news (by omega) (fun j u hj => by rw [Addr.add_lit]; exact hrng j u hj) h1
  have grow : ∀ (b : Option Addr) (cp : Nat) (olds : List Value), cp < n + m → (Builtin.firstCells i0.size n (.slice b n cp)).run Try.prog w.drew = .ok olds.toArray w.drew → v = .slice b n cp → ∀ q, v'.ownBlock = some q → w.heap.size ≤ q := fun b cp olds hcp hold e q hq => by
    have := run_append_grow_src w 22 22 ty 28 i0 _ Try.underlying22 hi0 hz0 b n cp olds hold _ m news hsrc hcp (by omega) (by rw [hzb]; exact growslice_fits hcp h63)
    rw [e, this] at hr
    injection hr with e1 e2
    rw [← e1] at hq
    have : w.heap.size = q := by simpa [Value.ownBlock] using hq
    omega
  rcases hown.2 with ⟨rfl, rfl⟩ | ⟨g, cap, cur, rfl, hb, hg, h1', h2', h3', h4'⟩
  · intro q hq
    exact .inr (grow none 0 [] (by omega) (by rw [hzs]; exact run_firstCells_none w.drew 1 0 0 0) rfl q hq)
  · rcases Nat.lt_or_ge cap (n + m) with hlt | hge
    · intro q hq
      refine .inr (grow (some ⟨g, 0, none⟩) cap xs hlt ?_ rfl q hq)
      rw [hzs]
      refine run_firstCells_some w.drew 1 n ⟨g, 0, none⟩ n cap xs hown.1 (fun j u hj => ?_)
      rw [Addr.add_lit, Nat.zero_add]
      have hj' := (List.getElem?_eq_some_iff.1 hj).1
      rw [hown.1, Nat.mul_one] at hj'
      rw [← h4', Nat.mul_one, List.getElem?_take_of_lt hj'] at hj
      show w.cell? _ = _
      rw [cell_row hg]
      simpa using hj
    · have := run_append_room_src (P := Try.prog) w 22 22 ty 28 i0 Try.underlying22 hi0 g 0 n cap _ m news hsrc hge (fun j hj => by rw [cell_row hg]; simp [hzs]; omega) (fun j hj => frozen_row hg)
      intro q hq
      rw [this] at hr
      injection hr with e1 e2
      rw [← e1] at hq
      exact .inl hq
theorem step_append_at {ops : Array Oper} {Q : Exit → Act → World → Prop} {md : Region.Mode} {S : World → Prop} {o : Oper} {fuel : Nat} {listed : Array Bool} {a : Act} {w : World} (j dst : Nat) (hj : ops[j]? = some o)
    (hr : Region.ready md ops listed = [j]) (hdst : o.dst = some dst) (hgd : o.guard = none) (s x : Operand) (hop : o.op = Op.call { callee := Callee.builtin Builtin.append, args := #[s, x], argTypes := #[22, 22] })
    (base : Nat) (v : Value) (n : Nat) (xs : List Value) (y : Value) (m : Nat) (news : List Value) (hs : a.eval s = v) (hy : a.eval x = y) (hown : w.ownsRow base 28 1 v n xs)
    (hx : Row w y m news) (hl : news.length = m) (h1 : ∀ u ∈ news, u.oneCell' = true) (hm : 0 < m)
    (hbytes : (n + m) * 24 ≤ 140737488355328) (hbase : base ≤ w.heap.size)
    (hK : ∀ v' w', w'.ownsRow base 28 1 v' (n + m) (xs ++ news) → w.grownBy w' v.ownBlock → (∀ q, v'.ownBlock = some q → v.ownBlock = some q ∨ w.heap.size ≤ q) → S w' ∧ wpAnyH Try.prog md ops Q S fuel (listed.setIfInBounds j true) (a.put (some dst) v') w') :
    wpAnyH Try.prog md ops Q S (fuel + 1) listed a w := by
  refine step_by j hj hr (fun K hK' => ?_)
  have hw : Region.wanted o (yielded ops a.tmps) = true := by simp [Region.wanted, hgd]
  rw [if_pos hw]
  obtain ⟨v', w', hrun, r1, r2⟩ := run_append_row (P := Try.prog) w base 22 o.type 28 (.slice none 0 0) 1 24 Try.underlying22 Try.info28 rfl (by omega) v n xs hown y m news hx (by omega) h1 hbytes (by omega) hbase
  have r3 := append_where hown hx hl h1 hbytes hm hrun
  have hE : (execOp a.eval o).run Try.prog w = .ok (.value v') w' := by
    simp [execOp, hop, resolve, invoke, builtin, hs, hy, hrun, Result.andThen]
  unfold Oper.wp
  rw [hE, Oper.upon_value, hdst]
  have := hK v' w' r1 r2 r3
  exact hK' _ _ this.1 this.2
theorem build24_1 (w : World) (x : Int) : (Instr.buildSlice 24 1 #[(0, .int .i64 x)]).run Try.prog w = .ok (.slice (some ⟨w.heap.size, 0, none⟩) 1 1) (w.alloc (.cells #[.int .i64 x] 3)) := by kernel_rfl
theorem op_build24 (ρ : Operand → Value) (o : Oper) (x : Operand) (ho : o.op = .buildSlice 24 1 #[(0, x)]) (n : Int) (hx : ρ x = .int .i64 n) (w : World) : (execOp ρ o).run Try.prog w = .ok (.value (.slice (some ⟨w.heap.size, 0, none⟩) 1 1)) (w.alloc (.cells #[.int .i64 n] 3)) := by
  rw [buildSlice_op ρ o 24 1 0 x ho _ hx, Sem.run_bind, build24_1]
  rfl
theorem storeSl24 (w : World) (b o : Nat) (u : Value) (ao : Option Addr) (n c : Nat) (hc : w.cell? ⟨b, o, none⟩ = some u) (hf : w.frozen? ⟨b, o, none⟩ = false) : (Instr.storeAt 24 (.pointer (some ⟨b, o, none⟩)) (.slice ao n c)).run Try.prog w = .ok () (w.setCell ⟨b, o, none⟩ (.slice ao n c)) := by
  have a2 := Try.isAgg24
  have z2 : ∀ w, (sizeOf 24).run Try.prog w = .ok 1 w := fun w => by kernel_rfl
  simp [go_sem, a2, z2, hc, hf]
theorem row_int (W : World) (n : Int) : Row (W.alloc (.cells #[.int .i64 n] 3)) (.slice (some ⟨W.heap.size, 0, none⟩) 1 1) 1 (intCells [n]) :=
  ⟨_, 1, rfl, Nat.le_refl _, by simp only [maxLen]; omega, fun _ => ⟨W.heap.size, 0, rfl, fun j u hu => by rw [Nat.zero_add, cell_row (heap_alloc_new W _)]; simpa [intCells, icell] using hu⟩⟩
/-- A block that stays but for what a call may write. -/
theorem Off.keep {fp : List Nat} {w w' : World} {b : Nat} {o : Obj} (h : Off fp w w') (hb : w.heap[b]? = some o) (hn : b ∉ fp) : w'.heap[b]? = some o := (h.block b (lt_of_heap hb) hn).trans hb
/-- What a step of the reader leaves: the rest of the bytes, a field of the node laid anew. -/
structure StepSt (W W' : World) (fb mb o : Nat) (fp : List Nat) (C : Array Value) (u : Value) (ra : Option Addr) (rc : Nat) (R : List UInt8) : Prop where
  off : Off (fb :: mb :: fp) W W'
  rd : W'.heap[fb]? = some (.cells #[.slice ra R.length rc] 69 (0, 0))
  box : W'.heap[mb]? = some (.cells (C.setIfInBounds o u) 26 (0, 0))
/-- What kid ends with. -/
def KidEnd (W : World) (fb mb o base : Nat) (C : Array Value) (u : Value) (l : List Int) (ra : Option Addr) (rc : Nat) (R : List UInt8) (e : Ending) (W' : World) : Prop :=
  (rd 4 R = none ∧ e = .returned (.bool false) ∧ Below W.heap.size W W') ∨
  (∃ x R', rd 4 R = some (x, R') ∧ e = .returned (.bool true) ∧ ∃ u' ra' rc', StepSt W W' fb mb o u.ownBlock.toList C u' ra' rc' R' ∧ (∀ V, Sl V (.slice ra R.length rc) R → Sl V (.slice ra' R'.length rc') R') ∧ W'.ownsRow base 3 1 u' (l.length + 1) (intCells (l ++ [(x : Int)])))
set_option maxHeartbeats 2000000 in
set_option maxRecDepth 100000 in
theorem kid_any {W : World} {fb mb o base : Nat} {C : Array Value} {u : Value} {l : List Int} {ra : Option Addr} {rc : Nat} {R : List UInt8} (h : RdB W fb ra rc R) (hm : W.heap[mb]? = some (.cells C 26 (0, 0))) (hC : C[o]? = some u) (hu : W.ownsRow base 3 1 u l.length (intCells l)) (hb : base ≤ W.heap.size) (hl : l.length ≤ 100000) :
    Calls Try.prog 42 #[.pointer (some ⟨fb, 0, none⟩), .pointer (some ⟨mb, o, none⟩)] W (KidEnd W fb mb o base C u l ra rc R) := by
  have hfm : fb ≠ mb := fun e => by
    have := h.heap
    rw [e, hm] at this
    simp at this
  have hfl := lt_of_heap h.heap
  have hml := lt_of_heap hm
  have hB1 : Below W.heap.size W (W.alloc (.cells #[.int .i64 0] 3)) := (Below.refl _ _).alloc (Nat.le_refl _) _
  have hr1 : RdB (W.alloc (.cells #[.int .i64 0] 3)) fb ra rc R := ⟨(hB1.block fb hfl).trans h.heap, h.sl.belowW hB1⟩
  have hcn : (W.alloc (.cells #[.int .i64 0] 3)).cell? ⟨W.heap.size, 0, none⟩ = some (.int .i64 0) := by rw [cell_row (heap_alloc_new W _)]; rfl
  have hcz : (W.alloc (.cells #[.int .i64 0] 3)).frozen? ⟨W.heap.size, 0, none⟩ = false := frozen_row (heap_alloc_new W _)
  have HNUM := hide (number_any (s := 4) hr1 hcn hcz (by omega) (Nat.le_refl _))
  have HSL := hide h.sl
  have HH := hide h.heap
  clear hr1 hcn hcz h
  go_enter Try.func42, Try.ntmps42
  go_wp2_with fail
  refine HNUM.out.mono ?_
  rintro e W2 (⟨hl4, rfl, rfl⟩ | ⟨hl4, rfl, rfl⟩)
  · have HB := hide hB1
    have HR : Hid (rd 4 R = none) := by rw [Hid]; unfold rd; rw [if_neg (by omega)]
    clear hB1
    go_wp2
    go_ret
    exact .inl ⟨HR.out, rfl, HB.out⟩
  · have HR : Hid (rd 4 R = some (beval (R.take 4), R.drop 4)) := by rw [Hid]; unfold rd; rw [if_pos hl4]
    generalize beval (R.take 4) = x at *
    have hs4 : Sl W (.slice (cutAt ra rc 4) (R.length - 4) (rc - 4)) (R.drop 4) := HSL.out.from 4 hl4
    -- the world behind number
    have o2 : Off [fb] W (((W.alloc (.cells #[.int .i64 0] 3)).setCell ⟨W.heap.size, 0, none⟩ (.int .i64 (x : Int))).setCell ⟨fb, 0, none⟩ (.slice (cutAt ra rc 4) (R.length - 4) (rc - 4))) :=
      (((Off.refl [fb] W).alloc _).setCell _ _ (.inr (Nat.le_refl _))).setCell _ _ (.inl (by simp))
    have hf2 : (((W.alloc (.cells #[.int .i64 0] 3)).setCell ⟨W.heap.size, 0, none⟩ (.int .i64 (x : Int))).setCell ⟨fb, 0, none⟩ (.slice (cutAt ra rc 4) (R.length - 4) (rc - 4))).heap[fb]? = some (.cells #[.slice (cutAt ra rc 4) (R.length - 4) (rc - 4)] 69 (0, 0)) := by
      have := heap_set_same (o := 0) (.slice (cutAt ra rc 4) (R.length - 4) (rc - 4)) ((set_stay (w := W.alloc (.cells #[.int .i64 0] 3)) W.heap.size 0 (.int .i64 (x : Int)) (show fb ≠ W.heap.size by omega)).trans ((hB1.block fb hfl).trans HH.out))
      rw [this]
      rfl
    have hn2 : (((W.alloc (.cells #[.int .i64 0] 3)).setCell ⟨W.heap.size, 0, none⟩ (.int .i64 (x : Int))).setCell ⟨fb, 0, none⟩ (.slice (cutAt ra rc 4) (R.length - 4) (rc - 4))).heap[W.heap.size]? = some (.cells #[.int .i64 (x : Int)] 3 (0, 0)) := by
      refine (set_stay fb 0 _ (show W.heap.size ≠ fb by omega)).trans ?_
      rw [heap_set_same (o := 0) (.int .i64 (x : Int)) (heap_alloc_new W _)]
      rfl
    have hm2 := o2.keep hm (by simp; omega)
    have hu2 := owns_off hu o2 (fun q hq => by simp at hq; subst hq; exact owns_ne hu HH.out (by decide))
    generalize (((W.alloc (.cells #[.int .i64 0] 3)).setCell ⟨W.heap.size, 0, none⟩ (.int .i64 (x : Int))).setCell ⟨fb, 0, none⟩ (.slice (cutAt ra rc 4) (R.length - 4) (rc - 4))) = W2 at *
    obtain ⟨ua, uc, eu⟩ := owns_len hu
    subst eu
    have hbx2 : W2.cell? ⟨W.heap.size, 0, none⟩ = some (.int .i64 (x : Int)) := by rw [cell_row hn2]; rfl
    have hfb2 := lt_of_heap hf2
    have hmb2 := lt_of_heap hm2
    have hnb2 := lt_of_heap hn2
    go_upto_region 4 with fail
    have hE : Below W2.heap.size W2 W2.drew := below_drewN _ _ 1
    have hfz2 : Hid (∀ U, Off [mb] W2 U ∨ Off (mb :: (Value.slice ua l.length uc).ownBlock.toList) W2 U → U.cell? ⟨W.heap.size, 0, none⟩ = some (.int .i64 (x : Int))) := fun U hU => by
      have hnb : W.heap.size ∉ (Value.slice ua l.length uc).ownBlock.toList := fun hm => by
        have := (hu.lt W.heap.size (by simpa using hm)).2
        omega
      have : U.heap[W.heap.size]? = some (.cells #[.int .i64 (x : Int)] 3 (0, 0)) := by
        rcases hU with hU | hU
        · exact hU.keep hn2 (by simp; omega)
        · exact hU.keep hn2 (by simp only [List.mem_cons, not_or]; exact ⟨by omega, hnb⟩)
      rw [cell_row this]
      rfl
    refine wp_region_held_drew (S := fun w' => w'.cell? ⟨W.heap.size, 0, none⟩ = some (.int .i64 (x : Int))) (by kernel_rfl) (hfz2.out _ (.inl (Off.of_below hE _))) (fun st0 => ?_)
    refine take_to 0 9 (.pointer (some ⟨mb, o, none⟩)) rfl (by kernel_rfl) (by kernel_rfl) (by kernel_rfl) (fun _ _ _ h => h) rfl (by rfl) (fun w hw => by rfl) st0 ?_
    simp only [Act.put, List.setIfInBounds_toArray, List.set_cons_zero, List.set_cons_succ]
    refine take_to 1 10 (.pointer (some ⟨mb, o, none⟩)) rfl (by kernel_rfl) (by kernel_rfl) (by kernel_rfl) (fun _ _ _ h => h) rfl (by rfl) (fun w hw => by rfl) st0 ?_
    simp only [Act.put, List.setIfInBounds_toArray, List.set_cons_zero, List.set_cons_succ]
    refine take_to 2 11 (.pointer (some ⟨mb, o, none⟩)) rfl (by kernel_rfl) (by kernel_rfl) (by kernel_rfl) (fun _ _ _ h => h) rfl (by rfl) (fun w hw => by rfl) st0 ?_
    simp only [Act.put, List.setIfInBounds_toArray, List.set_cons_zero, List.set_cons_succ]
    refine take_to 4 13 (.int .i64 (x : Int)) rfl (by kernel_rfl) (by kernel_rfl) (by kernel_rfl) (fun _ _ _ h => h) rfl (by rfl) (fun w hw => op_load _ _ 3 (.tmp 5) rfl (.pointer (some ⟨_, 0, none⟩)) _ rfl (run_loadAny w _ 0 3 _ Try.isAgg3 hw)) st0 ?_
    simp only [Act.put, List.setIfInBounds_toArray, List.set_cons_zero, List.set_cons_succ]
    have o0 : Off [mb] W2 W2.drew := Off.of_below hE _
    have hm0 : W2.drew.heap[mb]? = some (.cells C 26 (0, 0)) := hm2
    have hu0 : W2.drew.ownsRow base 3 1 (.slice ua l.length uc) l.length (intCells l) := hu2
    have hc0 : W2.drew.cell? ⟨mb, o, none⟩ = some (.slice ua l.length uc) := by rw [cell_row hm0]; exact hC
    have hq0 : base ≤ W2.drew.heap.size := Nat.le_trans hb o2.size
    generalize W2.drew = U0 at *
    have o1 : Off [mb] W2 (U0.alloc (.cells #[.int .i64 (x : Int)] 3)) := o0.alloc _
    have hal := (Below.refl U0.heap.size U0).alloc (Nat.le_refl _) (.cells #[.int .i64 (x : Int)] 3)
    have hm1 : (U0.alloc (.cells #[.int .i64 (x : Int)] 3)).heap[mb]? = some (.cells C 26 (0, 0)) := (hal.block mb (lt_of_heap hm0)).trans hm0
    have hc1 : (U0.alloc (.cells #[.int .i64 (x : Int)] 3)).cell? ⟨mb, o, none⟩ = some (.slice ua l.length uc) := by rw [cell_row hm1]; exact hC
    have hu1 := owns_below hu0 hal (Nat.le_refl _)
    have hrow := row_int U0 (x : Int)
    have hfu : Off (mb :: (Value.slice ua l.length uc).ownBlock.toList) W2 (U0.alloc (.cells #[.int .i64 (x : Int)] 3)) := o1.mono (fun i hi => by simp at hi; simp [hi])
    refine wpAnyH_all (rs := [3, 5]) (by kernel_rfl) (by simp) ?_
    intro n hn
    rcases (by simpa using hn : n = 3 ∨ n = 5) with rfl | rfl
    · refine op_to 12 (.slice ua l.length uc) U0 rfl rfl (by rfl) (op_load _ _ 24 (.tmp 11) rfl (.pointer (some ⟨_, _, none⟩)) _ rfl (run_loadAny _ _ _ 24 _ Try.isAgg24 hc0)) ⟨hfz2.out _ (.inl o0), ?_⟩
      simp only [Act.put, List.setIfInBounds_toArray, List.set_cons_zero, List.set_cons_succ]
      refine step_to 5 14 (.slice (some ⟨U0.heap.size, 0, none⟩) 1 1) (U0.alloc (.cells #[.int .i64 (x : Int)] 3)) rfl (by kernel_rfl) rfl (by rfl) (op_build24 _ _ (.tmp 13) rfl _ rfl _) (hfz2.out _ (.inl o1)) ?_
      simp only [Act.put, List.setIfInBounds_toArray, List.set_cons_zero, List.set_cons_succ]
      refine step_append_row 6 15 rfl (by kernel_rfl) rfl rfl (.tmp 12) (.tmp 14) 24 rfl base 3 (.int .i64 0) 1 8 Try.underlying24 Try.info3 rfl (by omega) (.slice ua l.length uc) l.length (intCells l) (.slice (some ⟨U0.heap.size, 0, none⟩) 1 1) 1 (intCells [(x : Int)]) rfl rfl hu1 hrow rfl (one_intCells _) (by omega) (by omega) (Nat.le_trans hq0 hal.size) ?_
      intro v3 U3 ho3 hg3
      have o3 : Off (mb :: (Value.slice ua l.length uc).ownBlock.toList) W2 U3 := hfu.grown hg3 (fun q hq => .inl (by rw [hq]; simp))
      have hm3 : U3.heap[mb]? = some (.cells C 26 (0, 0)) := grown_rec hu1 hg3 hm1 (by decide)
      obtain ⟨va, vc, ev⟩ := owns_len ho3
      subst ev
      refine ⟨hfz2.out _ (.inr o3), ?_⟩
      simp only [Act.put, List.setIfInBounds_toArray, List.set_cons_zero, List.set_cons_succ]
      refine step_to 7 16 (.pointer (some ⟨mb, o, none⟩)) U3 rfl (by kernel_rfl) rfl (by rfl) (by rfl) (hfz2.out _ (.inr o3)) ?_
      simp only [Act.put, List.setIfInBounds_toArray, List.set_cons_zero, List.set_cons_succ]
      have o4 : Off (mb :: (Value.slice ua l.length uc).ownBlock.toList) W2 (U3.setCell ⟨mb, o, none⟩ (.slice va (l.length + 1) vc)) := o3.setCell _ _ (.inl (by simp))
      refine step_store_to 8 (U3.setCell ⟨mb, o, none⟩ (.slice va (l.length + 1) vc)) rfl (by kernel_rfl) rfl (by rfl) 24 (.tmp 16) (.tmp 15) rfl (.pointer (some ⟨mb, o, none⟩)) (.slice va (l.length + 1) vc) rfl rfl (storeSl24 _ _ _ _ _ _ _ ((cell_row hm3).trans hC) (frozen_row hm3)) (hfz2.out _ (.inr o4)) ?_
      refine wpAnyH_done (by kernel_rfl) ?_ _
      have HEND : Hid (KidEnd W fb mb o base C (.slice ua l.length uc) l ra rc R (.returned (.bool true)) (U3.setCell ⟨mb, o, none⟩ (.slice va (l.length + 1) vc))) := by
        refine .inr ⟨x, R.drop 4, HR.out, rfl, _, cutAt ra rc 4, rc - 4, ⟨?_, ?_, heap_set_same (o := o) _ hm3⟩, fun V hV => by rw [List.length_drop]; exact hV.from 4 hl4, ?_⟩
        · exact (o2.mono (fun i hi => by simp at hi; simp [hi])).trans o4 (fun i hi => .inl (by simp at hi ⊢; rcases hi with hi | hi; exact .inr (.inl hi); exact .inr (.inr hi)))
        · rw [List.length_drop]
          refine o4.keep hf2 ?_
          simp only [List.mem_cons, not_or]
          refine ⟨hfm, fun hmm => ?_⟩
          exact owns_ne hu HH.out (by decide) (by simpa using hmm)
        · have e : intCells (l ++ [(x : Int)]) = intCells l ++ intCells [(x : Int)] := by simp [intCells]
          rw [e]
          exact owns_stay ho3 (fun q hq => set_stay _ _ _ (fun eq => owns_ne ho3 hm3 (by decide) (eq ▸ hq)))
      clear o0 o1 o3 o4 hfu hm0 hm1 hm3 hu0 hu1 ho3 hg3 hc0 hc1 hq0 hal hrow hfz2 st0 hE hbx2 hs4 hm2 hu2 hn2 hf2 o2 hm hu hC hb HH HSL HR HNUM hB1
      go_wp2
      go_ret
      exact HEND.out
    · refine op_to 14 (.slice (some ⟨U0.heap.size, 0, none⟩) 1 1) (U0.alloc (.cells #[.int .i64 (x : Int)] 3)) rfl rfl (by rfl) (op_build24 _ _ (.tmp 13) rfl _ rfl _) ⟨hfz2.out _ (.inl o1), ?_⟩
      simp only [Act.put, List.setIfInBounds_toArray, List.set_cons_zero, List.set_cons_succ]
      refine step_to 3 12 (.slice ua l.length uc) _ rfl (by kernel_rfl) rfl (by rfl) (op_load _ _ 24 (.tmp 11) rfl (.pointer (some ⟨_, _, none⟩)) _ rfl (run_loadAny _ _ _ 24 _ Try.isAgg24 hc1)) (hfz2.out _ (.inl o1)) ?_
      simp only [Act.put, List.setIfInBounds_toArray, List.set_cons_zero, List.set_cons_succ]
      refine step_append_row 6 15 rfl (by kernel_rfl) rfl rfl (.tmp 12) (.tmp 14) 24 rfl base 3 (.int .i64 0) 1 8 Try.underlying24 Try.info3 rfl (by omega) (.slice ua l.length uc) l.length (intCells l) (.slice (some ⟨U0.heap.size, 0, none⟩) 1 1) 1 (intCells [(x : Int)]) rfl rfl hu1 hrow rfl (one_intCells _) (by omega) (by omega) (Nat.le_trans hq0 hal.size) ?_
      intro v3 U3 ho3 hg3
      have o3 : Off (mb :: (Value.slice ua l.length uc).ownBlock.toList) W2 U3 := hfu.grown hg3 (fun q hq => .inl (by rw [hq]; simp))
      have hm3 : U3.heap[mb]? = some (.cells C 26 (0, 0)) := grown_rec hu1 hg3 hm1 (by decide)
      obtain ⟨va, vc, ev⟩ := owns_len ho3
      subst ev
      refine ⟨hfz2.out _ (.inr o3), ?_⟩
      simp only [Act.put, List.setIfInBounds_toArray, List.set_cons_zero, List.set_cons_succ]
      refine step_to 7 16 (.pointer (some ⟨mb, o, none⟩)) U3 rfl (by kernel_rfl) rfl (by rfl) (by rfl) (hfz2.out _ (.inr o3)) ?_
      simp only [Act.put, List.setIfInBounds_toArray, List.set_cons_zero, List.set_cons_succ]
      have o4 : Off (mb :: (Value.slice ua l.length uc).ownBlock.toList) W2 (U3.setCell ⟨mb, o, none⟩ (.slice va (l.length + 1) vc)) := o3.setCell _ _ (.inl (by simp))
      refine step_store_to 8 (U3.setCell ⟨mb, o, none⟩ (.slice va (l.length + 1) vc)) rfl (by kernel_rfl) rfl (by rfl) 24 (.tmp 16) (.tmp 15) rfl (.pointer (some ⟨mb, o, none⟩)) (.slice va (l.length + 1) vc) rfl rfl (storeSl24 _ _ _ _ _ _ _ ((cell_row hm3).trans hC) (frozen_row hm3)) (hfz2.out _ (.inr o4)) ?_
      refine wpAnyH_done (by kernel_rfl) ?_ _
      have HEND : Hid (KidEnd W fb mb o base C (.slice ua l.length uc) l ra rc R (.returned (.bool true)) (U3.setCell ⟨mb, o, none⟩ (.slice va (l.length + 1) vc))) := by
        refine .inr ⟨x, R.drop 4, HR.out, rfl, _, cutAt ra rc 4, rc - 4, ⟨?_, ?_, heap_set_same (o := o) _ hm3⟩, fun V hV => by rw [List.length_drop]; exact hV.from 4 hl4, ?_⟩
        · exact (o2.mono (fun i hi => by simp at hi; simp [hi])).trans o4 (fun i hi => .inl (by simp at hi ⊢; rcases hi with hi | hi; exact .inr (.inl hi); exact .inr (.inr hi)))
        · rw [List.length_drop]
          refine o4.keep hf2 ?_
          simp only [List.mem_cons, not_or]
          refine ⟨hfm, fun hmm => ?_⟩
          exact owns_ne hu HH.out (by decide) (by simpa using hmm)
        · have e : intCells (l ++ [(x : Int)]) = intCells l ++ intCells [(x : Int)] := by simp [intCells]
          rw [e]
          exact owns_stay ho3 (fun q hq => set_stay _ _ _ (fun eq => owns_ne ho3 hm3 (by decide) (eq ▸ hq)))
      clear o0 o1 o3 o4 hfu hm0 hm1 hm3 hu0 hu1 ho3 hg3 hc0 hc1 hq0 hal hrow hfz2 st0 hE hbx2 hs4 hm2 hu2 hn2 hf2 o2 hm hu hC hb HH HSL HR HNUM hB1
      go_wp2
      go_ret
      exact HEND.out
/-- Bytes do not lie in a reader's box. -/
theorem slOffR {W W' : World} {v : Value} {bs : List UInt8} {fb : Nat} {t : TypeId} {fr : Nat × Nat} {a : Option Addr} {n c : Nat} (h : Sl W v bs) (ho : Off [fb] W W') (hf : W.heap[fb]? = some (.cells #[.slice a n c] t fr)) : Sl W' v bs := by
  obtain ⟨ao, c', rfl, h1, h2, h3⟩ := h
  refine ⟨ao, c', rfl, h1, h2, fun hx => ?_⟩
  obtain ⟨g, o, ea, hr⟩ := h3 hx
  refine ⟨g, o, ea, fun j u hu => ?_⟩
  have hc := hr j u hu
  have hgf : g ≠ fb := fun e => by
    subst e
    rw [cell_row hf] at hc
    have hj := (List.getElem?_eq_some_iff.1 hu).1
    rw [length_secCells] at hj
    rw [secCells_get bs j hj] at hu
    have : o + j = 0 := by
      have := (Array.getElem?_eq_some_iff.1 hc).1
      simp at this
      omega
    rw [this] at hc
    simp at hc
    rw [← hc] at hu
    simp at hu
  have hb := ho.block g (World.block_lt_of_cell? W _ hc) (by simpa using hgf)
  unfold World.cell? at hc ⊢
  rw [hb]
  exact hc
theorem op_gtr3 (ρ : Operand → Value) (o : Oper) (x y : Operand) (tt : TypeId) (ho : o.op = .binOp .gtr 3 x y tt) (n m : Int) (hx : ρ x = .int .i64 n) (hy : ρ y = .int .i64 m) (b : Bool) (hb : decide (m < n) = b) {w : World} : (execOp ρ o).run Try.prog w = .ok (.value (.bool b)) w := by
  have hu := Try.underlying3
  unfold execOp
  simp only [ho, hx, hy]
  simp [go_sem, hu, hb]
theorem op_cut28 (ρ : Operand → Value) (o : Oper) (t : TypeId) (x : Operand) (lo hi mx : Option Operand) (ho : o.op = .slice t x lo hi mx) (px v : Value) (hx : ρ x = px) {P : Program} {w : World} (hr : (Instr.sliceAt t px (lo.map ρ) (hi.map ρ) (mx.map ρ)).run P w = .ok v w) : (execOp ρ o).run P w = .ok (.value v) w := by
  unfold execOp
  simp only [ho, hx, Sem.run_bind, hr, Result.andThen_ok, Sem.run_pure]
/-- What text ends with. -/
def TextEnd (W : World) (fb mb o base : Nat) (C : Array Value) (u : Value) (L : List (List UInt8)) (ra : Option Addr) (rc : Nat) (R : List UInt8) (e : Ending) (W' : World) : Prop :=
  (rdT R = none ∧ e = .returned (.bool false) ∧ Off [fb] W W') ∨
  (∃ t R', rdT R = some (t, R') ∧ e = .returned (.bool true) ∧ ∃ u' ra' rc', StepSt W W' fb mb o u.ownBlock.toList C u' ra' rc' R' ∧ (∀ V, Sl V (.slice ra R.length rc) R → Sl V (.slice ra' R'.length rc') R') ∧ TsOwn base W' u' (L ++ [t]) ∧ ∀ q, u'.ownBlock = some q → u.ownBlock = some q ∨ W.heap.size ≤ q)
/-- In the midst of text. -/
structure TMid (W2 W3 : World) (mb o base : Nat) (fp : List Nat) (C : Array Value) (v : Value) (L : List (List UInt8)) : Prop where
  off : Off (mb :: fp) W2 W3
  box : W3.heap[mb]? = some (.cells (C.setIfInBounds o v) 26 (0, 0))
  own : TsOwn base W3 v L
  wh : ∀ q, v.ownBlock = some q → fp = [q] ∨ W2.heap.size ≤ q
set_option maxHeartbeats 4000000 in
set_option maxRecDepth 100000 in
theorem text_any {W : World} {fb mb o base : Nat} {C : Array Value} {u : Value} {L : List (List UInt8)} {ra : Option Addr} {rc : Nat} {R : List UInt8} (h : RdB W fb ra rc R) (hm : W.heap[mb]? = some (.cells C 26 (0, 0))) (hC : C[o]? = some u) (hu : TsOwn base W u L) (hb : base ≤ W.heap.size) (hl : L.length ≤ 100000) :
    Calls Try.prog 43 #[.pointer (some ⟨fb, 0, none⟩), .pointer (some ⟨mb, o, none⟩)] W (TextEnd W fb mb o base C u L ra rc R) := by
  have hfm : fb ≠ mb := fun e => by
    have := h.heap
    rw [e, hm] at this
    simp at this
  have hfl := lt_of_heap h.heap
  have hml := lt_of_heap hm
  have hB1 : Below W.heap.size W (W.alloc (.cells #[.int .i64 0] 3)) := (Below.refl _ _).alloc (Nat.le_refl _) _
  have hB1d : Below W.heap.size W (W.alloc (.cells #[.int .i64 0] 3)).drew := hB1.trans (below_drewN _ _ 1)
  have hr1 : RdB (W.alloc (.cells #[.int .i64 0] 3)).drew fb ra rc R := ⟨(hB1d.block fb hfl).trans h.heap, h.sl.belowW hB1d⟩
  have hcn0 : (W.alloc (.cells #[.int .i64 0] 3)).drew.heap[W.heap.size]? = some (.cells #[.int .i64 0] 3 (0, 0)) := heap_alloc_new W _
  have hcn : (W.alloc (.cells #[.int .i64 0] 3)).drew.cell? ⟨W.heap.size, 0, none⟩ = some (.int .i64 0) := by rw [cell_row hcn0]; rfl
  have hcz : (W.alloc (.cells #[.int .i64 0] 3)).drew.frozen? ⟨W.heap.size, 0, none⟩ = false := frozen_row hcn0
  have HNUM := hide (number_any (s := 2) hr1 hcn hcz (by omega) (by omega))
  have HSL := hide h.sl
  have HH := hide h.heap
  obtain ⟨_, _, e, hrc1, hrc2⟩ := h.sl.len
  injection e with e1 e2 e3
  subst e1 e3
  simp only [maxLen] at hrc2
  clear hr1 hcn hcz h
  obtain ⟨ua, uc, eu⟩ := hu.slice
  subst eu
  go_enter Try.func43, Try.ntmps43
  go_upto_region 2 with fail
  refine wp_region_held_drew (S := fun _ => True) (by kernel_rfl) trivial (fun _ => ?_)
  refine take_to 0 6 (.pointer (some ⟨fb, 0, none⟩)) rfl (by kernel_rfl) (by kernel_rfl) (by kernel_rfl) (fun _ _ _ h => h) rfl (by rfl) (fun w hw => by rfl) trivial ?_
  simp only [Act.put, List.setIfInBounds_toArray, List.set_cons_zero, List.set_cons_succ]
  refine step_call3_to 1 7 41 rfl (by kernel_rfl) rfl (by rfl) (.tmp 6) (.tmp 5) (.const (.int .i64 2)) _ rfl _ _ _ rfl rfl rfl Try.enters41 HNUM.out ?_
  rintro e W2 (⟨hl2, rfl, rfl⟩ | ⟨hl2, rfl, rfl⟩)
  · refine ⟨_, rfl, trivial, ?_⟩
    simp only [Act.put, List.setIfInBounds_toArray, List.set_cons_zero, List.set_cons_succ]
    refine take_to 2 8 (.bool true) rfl (by kernel_rfl) (by kernel_rfl) (by kernel_rfl) (fun _ _ _ h => h) rfl (by rfl) (fun w hw => by rfl) trivial ?_
    simp only [Act.put, List.setIfInBounds_toArray, List.set_cons_zero, List.set_cons_succ]
    refine take_to 3 9 (.bool true) rfl (by kernel_rfl) (by kernel_rfl) (by kernel_rfl) (fun _ _ _ h => h) rfl (by rfl) (fun w hw => by rfl) trivial ?_
    simp only [Act.put, List.setIfInBounds_toArray, List.set_cons_zero, List.set_cons_succ]
    refine skip_to 4 10 rfl (by kernel_rfl) (by kernel_rfl) (by kernel_rfl) (fun _ _ _ h => h) rfl (by rfl) trivial ?_
    simp only [Act.put, List.setIfInBounds_toArray, List.set_cons_zero, List.set_cons_succ]
    refine skip_to 5 11 rfl (by kernel_rfl) (by kernel_rfl) (by kernel_rfl) (fun _ _ _ h => h) rfl (by rfl) trivial ?_
    simp only [Act.put, List.setIfInBounds_toArray, List.set_cons_zero, List.set_cons_succ]
    refine skip_to 6 12 rfl (by kernel_rfl) (by kernel_rfl) (by kernel_rfl) (fun _ _ _ h => h) rfl (by rfl) trivial ?_
    simp only [Act.put, List.setIfInBounds_toArray, List.set_cons_zero, List.set_cons_succ]
    refine skip_to 7 13 rfl (by kernel_rfl) (by kernel_rfl) (by kernel_rfl) (fun _ _ _ h => h) rfl (by rfl) trivial ?_
    simp only [Act.put, List.setIfInBounds_toArray, List.set_cons_zero, List.set_cons_succ]
    refine skip_to 8 14 rfl (by kernel_rfl) (by kernel_rfl) (by kernel_rfl) (fun _ _ _ h => h) rfl (by rfl) trivial ?_
    simp only [Act.put, List.setIfInBounds_toArray, List.set_cons_zero, List.set_cons_succ]
    refine skip_to 9 15 rfl (by kernel_rfl) (by kernel_rfl) (by kernel_rfl) (fun _ _ _ h => h) rfl (by rfl) trivial ?_
    simp only [Act.put, List.setIfInBounds_toArray, List.set_cons_zero, List.set_cons_succ]
    refine skip_to 10 16 rfl (by kernel_rfl) (by kernel_rfl) (by kernel_rfl) (fun _ _ _ h => h) rfl (by rfl) trivial ?_
    simp only [Act.put, List.setIfInBounds_toArray, List.set_cons_zero, List.set_cons_succ]
    refine take_to 11 17 (.bool true) rfl (by kernel_rfl) (by kernel_rfl) (by kernel_rfl) (fun _ _ _ h => h) rfl (by rfl) (fun w hw => by rfl) trivial ?_
    simp only [Act.put, List.setIfInBounds_toArray, List.set_cons_zero, List.set_cons_succ]
    refine wpAnyH_done (by kernel_rfl) ?_ _
    have HR : Hid (rdT R = none) := by rw [Hid]; unfold rdT rd; rw [if_neg (by omega)]
    have HO : Hid (Off [fb] W (W.alloc (.cells #[.int .i64 0] 3)).drew) := Off.of_below hB1d _
    clear hB1 hB1d hcn0 HNUM HSL HH hm hC hu
    go_wp2
    go_ret
    exact .inl ⟨HR.out, rfl, HO.out⟩
  · refine ⟨_, rfl, trivial, ?_⟩
    simp only [Act.put, List.setIfInBounds_toArray, List.set_cons_zero, List.set_cons_succ]
    have HR0 : Hid (rd 2 R = some (beval (R.take 2), R.drop 2)) := by rw [Hid]; unfold rd; rw [if_pos hl2]
    have hx16 := beval_take_lt R 2 (by omega)
    generalize beval (R.take 2) = x at *
    have hs1 : Sl W (.slice (cutAt ra rc 2) (R.length - 2) (rc - 2)) (R.drop 2) := HSL.out.from 2 hl2
    have o2 : Off [fb] W (((W.alloc (.cells #[.int .i64 0] 3)).drew.setCell ⟨W.heap.size, 0, none⟩ (.int .i64 (x : Int))).setCell ⟨fb, 0, none⟩ (.slice (cutAt ra rc 2) (R.length - 2) (rc - 2))) :=
      ((((Off.refl [fb] W).alloc _).drew).setCell _ _ (.inr (Nat.le_refl _))).setCell _ _ (.inl (by simp))
    have hf2 : (((W.alloc (.cells #[.int .i64 0] 3)).drew.setCell ⟨W.heap.size, 0, none⟩ (.int .i64 (x : Int))).setCell ⟨fb, 0, none⟩ (.slice (cutAt ra rc 2) (R.length - 2) (rc - 2))).heap[fb]? = some (.cells #[.slice (cutAt ra rc 2) (R.length - 2) (rc - 2)] 69 (0, 0)) := by
      have := heap_set_same (o := 0) (.slice (cutAt ra rc 2) (R.length - 2) (rc - 2)) ((set_stay (w := (W.alloc (.cells #[.int .i64 0] 3)).drew) W.heap.size 0 (.int .i64 (x : Int)) (show fb ≠ W.heap.size by omega)).trans ((hB1d.block fb hfl).trans HH.out))
      rw [this]
      rfl
    have hn2 : (((W.alloc (.cells #[.int .i64 0] 3)).drew.setCell ⟨W.heap.size, 0, none⟩ (.int .i64 (x : Int))).setCell ⟨fb, 0, none⟩ (.slice (cutAt ra rc 2) (R.length - 2) (rc - 2))).heap[W.heap.size]? = some (.cells #[.int .i64 (x : Int)] 3 (0, 0)) := by
      refine (set_stay fb 0 _ (show W.heap.size ≠ fb by omega)).trans ?_
      rw [heap_set_same (o := 0) (.int .i64 (x : Int)) hcn0]
      rfl
    have hm2 := o2.keep hm (by simp; omega)
    have hoth2 : Oth 69 W (((W.alloc (.cells #[.int .i64 0] 3)).drew.setCell ⟨W.heap.size, 0, none⟩ (.int .i64 (x : Int))).setCell ⟨fb, 0, none⟩ (.slice (cutAt ra rc 2) (R.length - 2) (rc - 2))) := fun q D t fr ht hq => by
      refine o2.keep hq (fun hmem => ?_)
      simp at hmem
      subst hmem
      have := hq.symm.trans HH.out
      simp at this
      exact ht this.2.1
    have hu2 := hu.oth hoth2 (by decide) (by decide)
    generalize (((W.alloc (.cells #[.int .i64 0] 3)).drew.setCell ⟨W.heap.size, 0, none⟩ (.int .i64 (x : Int))).setCell ⟨fb, 0, none⟩ (.slice (cutAt ra rc 2) (R.length - 2) (rc - 2))) = W2 at *
    have hbx2 : W2.cell? ⟨W.heap.size, 0, none⟩ = some (.int .i64 (x : Int)) := by rw [cell_row hn2]; rfl
    have hfx2 : W2.cell? ⟨fb, 0, none⟩ = some (.slice (cutAt ra rc 2) (R.length - 2) (rc - 2)) := by rw [cell_row hf2]; rfl
    refine wpAnyH_strong (S' := fun w' => w' = W2) (fun _ _ => trivial) _ _ _ _ ?_
    by_cases hxl : x ≤ R.length - 2
    · refine take_to 2 8 (.bool false) rfl (by kernel_rfl) (by kernel_rfl) (by kernel_rfl) (fun _ _ _ h => h) rfl (by rfl) (fun w hw => by rfl) rfl ?_
      simp only [Act.put, List.setIfInBounds_toArray, List.set_cons_zero, List.set_cons_succ]
      refine take_to 3 9 (.bool false) rfl (by kernel_rfl) (by kernel_rfl) (by kernel_rfl) (fun _ _ _ h => h) rfl (by rfl) (fun w hw => by rfl) rfl ?_
      simp only [Act.put, List.setIfInBounds_toArray, List.set_cons_zero, List.set_cons_succ]
      refine take_to 4 10 (.int .i64 (x : Int)) rfl (by kernel_rfl) (by kernel_rfl) (by kernel_rfl) (fun _ _ _ h => h) rfl (by rfl) (fun w hw => op_load _ _ 3 (.tmp 5) rfl (.pointer (some ⟨_, 0, none⟩)) _ rfl (run_loadAny w _ 0 3 _ Try.isAgg3 (hw ▸ hbx2))) rfl ?_
      simp only [Act.put, List.setIfInBounds_toArray, List.set_cons_zero, List.set_cons_succ]
      refine take_to 5 11 (.pointer (some ⟨fb, 0, none⟩)) rfl (by kernel_rfl) (by kernel_rfl) (by kernel_rfl) (fun _ _ _ h => h) rfl (by rfl) (fun w hw => by rfl) rfl ?_
      simp only [Act.put, List.setIfInBounds_toArray, List.set_cons_zero, List.set_cons_succ]
      refine take_to 6 12 (.pointer (some ⟨fb, 0, none⟩)) rfl (by kernel_rfl) (by kernel_rfl) (by kernel_rfl) (fun _ _ _ h => h) rfl (by rfl) (fun w hw => by rfl) rfl ?_
      simp only [Act.put, List.setIfInBounds_toArray, List.set_cons_zero, List.set_cons_succ]
      refine take_to 7 13 (.pointer (some ⟨fb, 0, none⟩)) rfl (by kernel_rfl) (by kernel_rfl) (by kernel_rfl) (fun _ _ _ h => h) rfl (by rfl) (fun w hw => by rfl) rfl ?_
      simp only [Act.put, List.setIfInBounds_toArray, List.set_cons_zero, List.set_cons_succ]
      refine take_to 8 14 (.slice (cutAt ra rc 2) (R.length - 2) (rc - 2)) rfl (by kernel_rfl) (by kernel_rfl) (by kernel_rfl) (fun _ _ _ h => h) rfl (by rfl) (fun w hw => op_load _ _ 28 (.tmp 13) rfl (.pointer (some ⟨_, 0, none⟩)) _ rfl (run_loadAny w _ 0 28 _ Try.isAgg28 (hw ▸ hfx2))) rfl ?_
      simp only [Act.put, List.setIfInBounds_toArray, List.set_cons_zero, List.set_cons_succ]
      refine take_to 9 15 (.int .i64 ((R.length - 2 : Nat) : Int)) rfl (by kernel_rfl) (by kernel_rfl) (by kernel_rfl) (fun _ _ _ h => h) rfl (by rfl) (fun w hw => op_len _ _ (.tmp 14) 28 5 Try.underlying28 rfl _ _ _ rfl) rfl ?_
      simp only [Act.put, List.setIfInBounds_toArray, List.set_cons_zero, List.set_cons_succ]
      refine take_to 10 16 (.bool false) rfl (by kernel_rfl) (by kernel_rfl) (by kernel_rfl) (fun _ _ _ h => h) rfl (by rfl) (fun w hw => op_gtr3 _ _ (.tmp 10) (.tmp 15) _ rfl _ _ rfl rfl false (by simp; omega)) rfl ?_
      simp only [Act.put, List.setIfInBounds_toArray, List.set_cons_zero, List.set_cons_succ]
      refine take_to 11 17 (.bool false) rfl (by kernel_rfl) (by kernel_rfl) (by kernel_rfl) (fun _ _ _ h => h) rfl (by rfl) (fun w hw => by rfl) rfl ?_
      simp only [Act.put, List.setIfInBounds_toArray, List.set_cons_zero, List.set_cons_succ]
      refine wpAnyH_done (by kernel_rfl) ?_ _
      have HRT : Hid (rdT R = some ((R.drop 2).take x, (R.drop 2).drop x)) := by
        rw [Hid]
        unfold rdT
        rw [HR0.out]
        simp only
        rw [if_pos (by rw [List.length_drop]; exact hxl)]
      have HSLP : Hid (Sl W2 (.slice (cutAt ra rc 2) (R.length - 2) (rc - 2)) (R.drop 2)) := slOffR hs1 o2 HH.out
      go_upto_region 4 with fail
      go_cut [] from 18 (fun wx => ∃ v3, TMid W2 wx mb o base (Value.slice ua L.length uc).ownBlock.toList C v3 (L ++ [(R.drop 2).take x]))
      case first =>
        have hE : Below W2.heap.size W2 W2.drew := below_drewN _ _ 1
        have hcells : Hid (∀ U, Off (mb :: (Value.slice ua L.length uc).ownBlock.toList) W2 U → U.cell? ⟨fb, 0, none⟩ = some (.slice (cutAt ra rc 2) (R.length - 2) (rc - 2)) ∧ U.cell? ⟨W.heap.size, 0, none⟩ = some (.int .i64 (x : Int))) := fun U hU => by
          obtain ⟨us, _, hown⟩ := hu.out
          have h1 : U.heap[fb]? = some (.cells #[.slice (cutAt ra rc 2) (R.length - 2) (rc - 2)] 69 (0, 0)) := hU.keep hf2 (by
            simp only [List.mem_cons, not_or]
            exact ⟨hfm, fun hq => owns_ne hown HH.out (by decide) (by simpa using hq)⟩)
          have h2 : U.heap[W.heap.size]? = some (.cells #[.int .i64 (x : Int)] 3 (0, 0)) := hU.keep hn2 (by
            simp only [List.mem_cons, not_or]
            refine ⟨by omega, fun hq => ?_⟩
            have := (hown.lt W.heap.size (by simpa using hq)).2
            omega)
          exact ⟨by rw [cell_row h1]; rfl, by rw [cell_row h2]; rfl⟩
        have o0 : Off (mb :: (Value.slice ua L.length uc).ownBlock.toList) W2 W2.drew := Off.of_below hE _
        have ht0 : Sl W2.drew (.slice (cutAt ra rc 2) x (rc - 2)) ((R.drop 2).take x) := by
          have := HSLP.out.to x (by rw [List.length_drop]; exact hxl)
          exact this.belowW hE
        refine wp_region_held_drew (S := fun w' => w'.cell? ⟨fb, 0, none⟩ = some (.slice (cutAt ra rc 2) (R.length - 2) (rc - 2)) ∧ w'.cell? ⟨W.heap.size, 0, none⟩ = some (.int .i64 (x : Int))) (by kernel_rfl) (hcells.out _ o0) (fun st0 => ?_)
        refine take_to 0 18 (.pointer (some ⟨mb, o, none⟩)) rfl (by kernel_rfl) (by kernel_rfl) (by kernel_rfl) (fun _ _ _ h => h) rfl (by rfl) (fun w hw => by rfl) st0 ?_
        simp only [Act.put, List.setIfInBounds_toArray, List.set_cons_zero, List.set_cons_succ]
        refine take_to 1 19 (.pointer (some ⟨mb, o, none⟩)) rfl (by kernel_rfl) (by kernel_rfl) (by kernel_rfl) (fun _ _ _ h => h) rfl (by rfl) (fun w hw => by rfl) st0 ?_
        simp only [Act.put, List.setIfInBounds_toArray, List.set_cons_zero, List.set_cons_succ]
        refine take_to 2 20 (.pointer (some ⟨mb, o, none⟩)) rfl (by kernel_rfl) (by kernel_rfl) (by kernel_rfl) (fun _ _ _ h => h) rfl (by rfl) (fun w hw => by rfl) st0 ?_
        simp only [Act.put, List.setIfInBounds_toArray, List.set_cons_zero, List.set_cons_succ]
        refine take_to 4 22 (.pointer (some ⟨fb, 0, none⟩)) rfl (by kernel_rfl) (by kernel_rfl) (by kernel_rfl) (fun _ _ _ h => h) rfl (by rfl) (fun w hw => by rfl) st0 ?_
        simp only [Act.put, List.setIfInBounds_toArray, List.set_cons_zero, List.set_cons_succ]
        refine take_to 5 23 (.pointer (some ⟨fb, 0, none⟩)) rfl (by kernel_rfl) (by kernel_rfl) (by kernel_rfl) (fun _ _ _ h => h) rfl (by rfl) (fun w hw => by rfl) st0 ?_
        simp only [Act.put, List.setIfInBounds_toArray, List.set_cons_zero, List.set_cons_succ]
        refine take_to 6 24 (.pointer (some ⟨fb, 0, none⟩)) rfl (by kernel_rfl) (by kernel_rfl) (by kernel_rfl) (fun _ _ _ h => h) rfl (by rfl) (fun w hw => by rfl) st0 ?_
        simp only [Act.put, List.setIfInBounds_toArray, List.set_cons_zero, List.set_cons_succ]
        refine take_to 7 25 (.slice (cutAt ra rc 2) (R.length - 2) (rc - 2)) rfl (by kernel_rfl) (by kernel_rfl) (by kernel_rfl) (fun _ _ _ h => h) rfl (by rfl) (fun w hw => op_load _ _ 28 (.tmp 24) rfl (.pointer (some ⟨_, 0, none⟩)) _ rfl (run_loadAny w _ 0 28 _ Try.isAgg28 hw.1)) st0 ?_
        simp only [Act.put, List.setIfInBounds_toArray, List.set_cons_zero, List.set_cons_succ]
        refine take_to 8 26 (.int .i64 (x : Int)) rfl (by kernel_rfl) (by kernel_rfl) (by kernel_rfl) (fun _ _ _ h => h) rfl (by rfl) (fun w hw => op_load _ _ 3 (.tmp 5) rfl (.pointer (some ⟨_, 0, none⟩)) _ rfl (run_loadAny w _ 0 3 _ Try.isAgg3 hw.2)) st0 ?_
        simp only [Act.put, List.setIfInBounds_toArray, List.set_cons_zero, List.set_cons_succ]
        refine take_to 9 27 (.slice (cutAt ra rc 2) x (rc - 2)) rfl (by kernel_rfl) (by kernel_rfl) (by kernel_rfl) (fun _ _ _ h => h) rfl (by rfl) (fun w hw => op_cut28 _ _ 28 (.tmp 25) none (some (.tmp 26)) none rfl _ _ rfl (run_cut_to w (cutAt ra rc 2) (R.length - 2) (rc - 2) x (by omega))) st0 ?_
        simp only [Act.put, List.setIfInBounds_toArray, List.set_cons_zero, List.set_cons_succ]
        have hm0 : W2.drew.heap[mb]? = some (.cells C 26 (0, 0)) := hm2
        have hc0 : W2.drew.cell? ⟨mb, o, none⟩ = some (.slice ua L.length uc) := by rw [cell_row hm0]; exact hC
        have hu0 : TsOwn base W2.drew (.slice ua L.length uc) L := hu2.belowW hE
        have hq0 : base ≤ W2.drew.heap.size := Nat.le_trans hb o2.size
        have hlt : ((R.drop 2).take x).length = x := by rw [List.length_take, List.length_drop]; omega
        generalize W2.drew = U0 at *
        generalize (R.drop 2).take x = T at *
        have HCL : Hid (Calls Try.prog 29 #[.slice (cutAt ra rc 2) x (rc - 2)] U0 fun e w' => ∃ v', e = .returned v' ∧ Bts U0 w' v' T) := by
          have := clone_any ht0 (by omega)
          exact this
        refine wpAnyH_all (rs := [3, 10]) (by kernel_rfl) (by simp) ?_
        intro n hn
        rcases (by simpa using hn : n = 3 ∨ n = 10) with rfl | rfl
        · refine op_to 21 (.slice ua L.length uc) U0 rfl rfl (by rfl) (op_load _ _ 22 (.tmp 20) rfl (.pointer (some ⟨_, _, none⟩)) _ rfl (run_loadAny _ _ _ 22 _ Try.isAgg22 hc0)) ⟨hcells.out _ o0, ?_⟩
          simp only [Act.put, List.setIfInBounds_toArray, List.set_cons_zero, List.set_cons_succ]
          refine step_call1_to 10 28 29 rfl (by kernel_rfl) rfl (by rfl) (.tmp 27) _ rfl _ rfl Try.enters29 HCL.out ?_
          rintro e U1 ⟨v1, rfl, hb1⟩
          have o1 : Off (mb :: (Value.slice ua L.length uc).ownBlock.toList) W2 U1 := o0.trans (Off.of_below hb1.below []) (fun i hi => by simp at hi)
          have hm1 : U1.heap[mb]? = some (.cells C 26 (0, 0)) := (hb1.below.block mb (lt_of_heap hm0)).trans hm0
          have hc1 : U1.cell? ⟨mb, o, none⟩ = some (.slice ua L.length uc) := by rw [cell_row hm1]; exact hC
          have hu1 := hu0.belowW hb1.below
          have hov : U1.ownsRow base 5 1 v1 T.length (secCells T) := owns_mono hb1.own hq0
          have hq1 : base ≤ U1.heap.size := Nat.le_trans hq0 hb1.below.size
          obtain ⟨va, vc, ev⟩ := owns_len hov
          subst ev
          refine ⟨_, rfl, hcells.out _ o1, ?_⟩
          simp only [Act.put, List.setIfInBounds_toArray, List.set_cons_zero, List.set_cons_succ]
          have hal : Below U1.heap.size U1 (U1.alloc (.cells #[.slice va T.length vc] 28)) := (Below.refl _ _).alloc (Nat.le_refl _) _
          have oA : Off (mb :: (Value.slice ua L.length uc).ownBlock.toList) W2 (U1.alloc (.cells #[.slice va T.length vc] 28)) := o1.alloc _
          have hmA : (U1.alloc (.cells #[.slice va T.length vc] 28)).heap[mb]? = some (.cells C 26 (0, 0)) := (hal.block mb (lt_of_heap hm1)).trans hm1
          have hcA : (U1.alloc (.cells #[.slice va T.length vc] 28)).cell? ⟨mb, o, none⟩ = some (.slice ua L.length uc) := by rw [cell_row hmA]; exact hC
          have huA := hu1.belowW hal
          have hovA := owns_below hov hal (Nat.le_refl _)
          have hrow : Row (U1.alloc (.cells #[.slice va T.length vc] 28)) (.slice (some ⟨U1.heap.size, 0, none⟩) 1 1) 1 [.slice va T.length vc] := ⟨_, 1, rfl, Nat.le_refl _, by simp only [maxLen]; omega, fun _ => ⟨U1.heap.size, 0, rfl, fun j q hq => by rw [Nat.zero_add, cell_row (heap_alloc_new U1 _)]; simpa using hq⟩⟩
          refine step_to 11 29 (.slice (some ⟨U1.heap.size, 0, none⟩) 1 1) (U1.alloc (.cells #[.slice va T.length vc] 28)) rfl (by kernel_rfl) rfl (by rfl) (op_build22 _ _ (.tmp 28) rfl _ _ _ rfl _) (hcells.out _ oA) ?_
          simp only [Act.put, List.setIfInBounds_toArray, List.set_cons_zero, List.set_cons_succ]
          obtain ⟨us, hus, hown⟩ := huA.out
          refine step_append_at 12 30 rfl (by kernel_rfl) rfl rfl (.tmp 21) (.tmp 29) rfl base (.slice ua L.length uc) L.length us (.slice (some ⟨U1.heap.size, 0, none⟩) 1 1) 1 [.slice va T.length vc] rfl rfl hown hrow rfl (fun q hq => by simp at hq; subst hq; rfl) (by omega) (by omega) (Nat.le_trans hq1 hal.size) ?_
          intro v3 U3 ho3 hg3 hwh3
          have o3 : Off (mb :: (Value.slice ua L.length uc).ownBlock.toList) W2 U3 := oA.grown hg3 (fun q hq => .inl (by rw [hq]; simp))
          have hm3 : U3.heap[mb]? = some (.cells C 26 (0, 0)) := grown_rec hown hg3 hmA (by decide)
          have hO3 : Oth 28 (U1.alloc (.cells #[.slice va T.length vc] 28)) U3 := (Oth.refl _ _).grown hown hg3
          have ht3 : TsOwn base U3 v3 (L ++ [T]) := by
            have h1 : OwnT base (U1.alloc (.cells #[.slice va T.length vc] 28)) [.slice va T.length vc] [T] := ⟨hovA, trivial⟩
            refine ⟨us ++ [.slice va T.length vc], (hus.append h1).oth hO3 (by decide), ?_⟩
            rw [List.length_append]
            exact ho3
          obtain ⟨wa, wd, ew⟩ := owns_len ho3
          subst ew
          refine ⟨hcells.out _ o3, ?_⟩
          simp only [Act.put, List.setIfInBounds_toArray, List.set_cons_zero, List.set_cons_succ]
          refine step_to 13 31 (.pointer (some ⟨mb, o, none⟩)) U3 rfl (by kernel_rfl) rfl (by rfl) (by rfl) (hcells.out _ o3) ?_
          simp only [Act.put, List.setIfInBounds_toArray, List.set_cons_zero, List.set_cons_succ]
          have o4 : Off (mb :: (Value.slice ua L.length uc).ownBlock.toList) W2 (U3.setCell ⟨mb, o, none⟩ (.slice wa (L.length + 1) wd)) := o3.setCell _ _ (.inl (by simp))
          have hoth4 : Oth 26 U3 (U3.setCell ⟨mb, o, none⟩ (.slice wa (L.length + 1) wd)) := fun q D t fr ht hq => by
            refine (set_stay mb o _ (fun e => ?_)).trans hq
            subst e
            rw [hm3] at hq
            simp at hq
            exact ht hq.2.1.symm
          refine step_store_to 14 (U3.setCell ⟨mb, o, none⟩ (.slice wa (L.length + 1) wd)) rfl (by kernel_rfl) rfl (by rfl) 22 (.tmp 31) (.tmp 30) rfl (.pointer (some ⟨mb, o, none⟩)) (.slice wa (L.length + 1) wd) rfl rfl (storeSl _ _ _ _ _ _ _ _ _ rfl (.inr rfl) ((cell_row hm3).trans hC) (frozen_row hm3)) (hcells.out _ o4) ?_
          refine wpAnyH_done (by kernel_rfl) ?_ _
          go_wp2_with fail
          go_meet
          exact ⟨_, o4, heap_set_same (o := o) _ hm3, ht3.oth hoth4 (by decide) (by decide), fun q hq => by rcases hwh3 q hq with h | h; exact .inl (by rw [h]; rfl); exact .inr (Nat.le_trans oA.size h)⟩
        · refine op_call1_to 28 29 rfl rfl (by rfl) (.tmp 27) _ rfl _ rfl Try.enters29 HCL.out ?_
          rintro e U1 ⟨v1, rfl, hb1⟩
          have o1 : Off (mb :: (Value.slice ua L.length uc).ownBlock.toList) W2 U1 := o0.trans (Off.of_below hb1.below []) (fun i hi => by simp at hi)
          have hm1 : U1.heap[mb]? = some (.cells C 26 (0, 0)) := (hb1.below.block mb (lt_of_heap hm0)).trans hm0
          have hc1 : U1.cell? ⟨mb, o, none⟩ = some (.slice ua L.length uc) := by rw [cell_row hm1]; exact hC
          have hu1 := hu0.belowW hb1.below
          have hov : U1.ownsRow base 5 1 v1 T.length (secCells T) := owns_mono hb1.own hq0
          have hq1 : base ≤ U1.heap.size := Nat.le_trans hq0 hb1.below.size
          obtain ⟨va, vc, ev⟩ := owns_len hov
          subst ev
          refine ⟨_, rfl, hcells.out _ o1, ?_⟩
          simp only [Act.put, List.setIfInBounds_toArray, List.set_cons_zero, List.set_cons_succ]
          have hal : Below U1.heap.size U1 (U1.alloc (.cells #[.slice va T.length vc] 28)) := (Below.refl _ _).alloc (Nat.le_refl _) _
          have oA : Off (mb :: (Value.slice ua L.length uc).ownBlock.toList) W2 (U1.alloc (.cells #[.slice va T.length vc] 28)) := o1.alloc _
          have hmA : (U1.alloc (.cells #[.slice va T.length vc] 28)).heap[mb]? = some (.cells C 26 (0, 0)) := (hal.block mb (lt_of_heap hm1)).trans hm1
          have hcA : (U1.alloc (.cells #[.slice va T.length vc] 28)).cell? ⟨mb, o, none⟩ = some (.slice ua L.length uc) := by rw [cell_row hmA]; exact hC
          have huA := hu1.belowW hal
          have hovA := owns_below hov hal (Nat.le_refl _)
          have hrow : Row (U1.alloc (.cells #[.slice va T.length vc] 28)) (.slice (some ⟨U1.heap.size, 0, none⟩) 1 1) 1 [.slice va T.length vc] := ⟨_, 1, rfl, Nat.le_refl _, by simp only [maxLen]; omega, fun _ => ⟨U1.heap.size, 0, rfl, fun j q hq => by rw [Nat.zero_add, cell_row (heap_alloc_new U1 _)]; simpa using hq⟩⟩
          refine wpAnyH_all (rs := [3, 11]) (by kernel_rfl) (by simp) ?_
          intro n hn
          rcases (by simpa using hn : n = 3 ∨ n = 11) with rfl | rfl
          · refine op_to 21 (.slice ua L.length uc) U1 rfl rfl (by rfl) (op_load _ _ 22 (.tmp 20) rfl (.pointer (some ⟨_, _, none⟩)) _ rfl (run_loadAny _ _ _ 22 _ Try.isAgg22 hc1)) ⟨hcells.out _ o1, ?_⟩
            simp only [Act.put, List.setIfInBounds_toArray, List.set_cons_zero, List.set_cons_succ]
            refine step_to 11 29 (.slice (some ⟨U1.heap.size, 0, none⟩) 1 1) (U1.alloc (.cells #[.slice va T.length vc] 28)) rfl (by kernel_rfl) rfl (by rfl) (op_build22 _ _ (.tmp 28) rfl _ _ _ rfl _) (hcells.out _ oA) ?_
            simp only [Act.put, List.setIfInBounds_toArray, List.set_cons_zero, List.set_cons_succ]
            obtain ⟨us, hus, hown⟩ := huA.out
            refine step_append_at 12 30 rfl (by kernel_rfl) rfl rfl (.tmp 21) (.tmp 29) rfl base (.slice ua L.length uc) L.length us (.slice (some ⟨U1.heap.size, 0, none⟩) 1 1) 1 [.slice va T.length vc] rfl rfl hown hrow rfl (fun q hq => by simp at hq; subst hq; rfl) (by omega) (by omega) (Nat.le_trans hq1 hal.size) ?_
            intro v3 U3 ho3 hg3 hwh3
            have o3 : Off (mb :: (Value.slice ua L.length uc).ownBlock.toList) W2 U3 := oA.grown hg3 (fun q hq => .inl (by rw [hq]; simp))
            have hm3 : U3.heap[mb]? = some (.cells C 26 (0, 0)) := grown_rec hown hg3 hmA (by decide)
            have hO3 : Oth 28 (U1.alloc (.cells #[.slice va T.length vc] 28)) U3 := (Oth.refl _ _).grown hown hg3
            have ht3 : TsOwn base U3 v3 (L ++ [T]) := by
              have h1 : OwnT base (U1.alloc (.cells #[.slice va T.length vc] 28)) [.slice va T.length vc] [T] := ⟨hovA, trivial⟩
              refine ⟨us ++ [.slice va T.length vc], (hus.append h1).oth hO3 (by decide), ?_⟩
              rw [List.length_append]
              exact ho3
            obtain ⟨wa, wd, ew⟩ := owns_len ho3
            subst ew
            refine ⟨hcells.out _ o3, ?_⟩
            simp only [Act.put, List.setIfInBounds_toArray, List.set_cons_zero, List.set_cons_succ]
            refine step_to 13 31 (.pointer (some ⟨mb, o, none⟩)) U3 rfl (by kernel_rfl) rfl (by rfl) (by rfl) (hcells.out _ o3) ?_
            simp only [Act.put, List.setIfInBounds_toArray, List.set_cons_zero, List.set_cons_succ]
            have o4 : Off (mb :: (Value.slice ua L.length uc).ownBlock.toList) W2 (U3.setCell ⟨mb, o, none⟩ (.slice wa (L.length + 1) wd)) := o3.setCell _ _ (.inl (by simp))
            have hoth4 : Oth 26 U3 (U3.setCell ⟨mb, o, none⟩ (.slice wa (L.length + 1) wd)) := fun q D t fr ht hq => by
              refine (set_stay mb o _ (fun e => ?_)).trans hq
              subst e
              rw [hm3] at hq
              simp at hq
              exact ht hq.2.1.symm
            refine step_store_to 14 (U3.setCell ⟨mb, o, none⟩ (.slice wa (L.length + 1) wd)) rfl (by kernel_rfl) rfl (by rfl) 22 (.tmp 31) (.tmp 30) rfl (.pointer (some ⟨mb, o, none⟩)) (.slice wa (L.length + 1) wd) rfl rfl (storeSl _ _ _ _ _ _ _ _ _ rfl (.inr rfl) ((cell_row hm3).trans hC) (frozen_row hm3)) (hcells.out _ o4) ?_
            refine wpAnyH_done (by kernel_rfl) ?_ _
            go_wp2_with fail
            go_meet
            exact ⟨_, o4, heap_set_same (o := o) _ hm3, ht3.oth hoth4 (by decide) (by decide), fun q hq => by rcases hwh3 q hq with h | h; exact .inl (by rw [h]; rfl); exact .inr (Nat.le_trans oA.size h)⟩
          · refine op_to 29 (.slice (some ⟨U1.heap.size, 0, none⟩) 1 1) (U1.alloc (.cells #[.slice va T.length vc] 28)) rfl rfl (by rfl) (op_build22 _ _ (.tmp 28) rfl _ _ _ rfl _) ⟨hcells.out _ oA, ?_⟩
            simp only [Act.put, List.setIfInBounds_toArray, List.set_cons_zero, List.set_cons_succ]
            refine step_to 3 21 (.slice ua L.length uc) _ rfl (by kernel_rfl) rfl (by rfl) (op_load _ _ 22 (.tmp 20) rfl (.pointer (some ⟨_, _, none⟩)) _ rfl (run_loadAny _ _ _ 22 _ Try.isAgg22 hcA)) (hcells.out _ oA) ?_
            simp only [Act.put, List.setIfInBounds_toArray, List.set_cons_zero, List.set_cons_succ]
            obtain ⟨us, hus, hown⟩ := huA.out
            refine step_append_at 12 30 rfl (by kernel_rfl) rfl rfl (.tmp 21) (.tmp 29) rfl base (.slice ua L.length uc) L.length us (.slice (some ⟨U1.heap.size, 0, none⟩) 1 1) 1 [.slice va T.length vc] rfl rfl hown hrow rfl (fun q hq => by simp at hq; subst hq; rfl) (by omega) (by omega) (Nat.le_trans hq1 hal.size) ?_
            intro v3 U3 ho3 hg3 hwh3
            have o3 : Off (mb :: (Value.slice ua L.length uc).ownBlock.toList) W2 U3 := oA.grown hg3 (fun q hq => .inl (by rw [hq]; simp))
            have hm3 : U3.heap[mb]? = some (.cells C 26 (0, 0)) := grown_rec hown hg3 hmA (by decide)
            have hO3 : Oth 28 (U1.alloc (.cells #[.slice va T.length vc] 28)) U3 := (Oth.refl _ _).grown hown hg3
            have ht3 : TsOwn base U3 v3 (L ++ [T]) := by
              have h1 : OwnT base (U1.alloc (.cells #[.slice va T.length vc] 28)) [.slice va T.length vc] [T] := ⟨hovA, trivial⟩
              refine ⟨us ++ [.slice va T.length vc], (hus.append h1).oth hO3 (by decide), ?_⟩
              rw [List.length_append]
              exact ho3
            obtain ⟨wa, wd, ew⟩ := owns_len ho3
            subst ew
            refine ⟨hcells.out _ o3, ?_⟩
            simp only [Act.put, List.setIfInBounds_toArray, List.set_cons_zero, List.set_cons_succ]
            refine step_to 13 31 (.pointer (some ⟨mb, o, none⟩)) U3 rfl (by kernel_rfl) rfl (by rfl) (by rfl) (hcells.out _ o3) ?_
            simp only [Act.put, List.setIfInBounds_toArray, List.set_cons_zero, List.set_cons_succ]
            have o4 : Off (mb :: (Value.slice ua L.length uc).ownBlock.toList) W2 (U3.setCell ⟨mb, o, none⟩ (.slice wa (L.length + 1) wd)) := o3.setCell _ _ (.inl (by simp))
            have hoth4 : Oth 26 U3 (U3.setCell ⟨mb, o, none⟩ (.slice wa (L.length + 1) wd)) := fun q D t fr ht hq => by
              refine (set_stay mb o _ (fun e => ?_)).trans hq
              subst e
              rw [hm3] at hq
              simp at hq
              exact ht hq.2.1.symm
            refine step_store_to 14 (U3.setCell ⟨mb, o, none⟩ (.slice wa (L.length + 1) wd)) rfl (by kernel_rfl) rfl (by rfl) 22 (.tmp 31) (.tmp 30) rfl (.pointer (some ⟨mb, o, none⟩)) (.slice wa (L.length + 1) wd) rfl rfl (storeSl _ _ _ _ _ _ _ _ _ rfl (.inr rfl) ((cell_row hm3).trans hC) (frozen_row hm3)) (hcells.out _ o4) ?_
            refine wpAnyH_done (by kernel_rfl) ?_ _
            go_wp2_with fail
            go_meet
            exact ⟨_, o4, heap_set_same (o := o) _ hm3, ht3.oth hoth4 (by decide) (by decide), fun q hq => by rcases hwh3 q hq with h | h; exact .inl (by rw [h]; rfl); exact .inr (Nat.le_trans oA.size h)⟩
      case rest =>
        obtain ⟨v3, hT3⟩ := hcut
        have HT3 := hide hT3
        clear hT3
        generalize wc = W3 at *
        go_upto_region 5 with fail
        obtain ⟨us, _, hown⟩ := hu.out
        have hfpf : fb ∉ (mb :: (Value.slice ua L.length uc).ownBlock.toList) := by
          simp only [List.mem_cons, not_or]
          exact ⟨hfm, fun hq => owns_ne hown HH.out (by decide) (by simpa using hq)⟩
        have hfpn : W.heap.size ∉ (mb :: (Value.slice ua L.length uc).ownBlock.toList) := by
          simp only [List.mem_cons, not_or]
          refine ⟨by omega, fun hq => ?_⟩
          have := (hown.lt W.heap.size (by simpa using hq)).2
          omega
        have hf3 : W3.drew.heap[fb]? = some (.cells #[.slice (cutAt ra rc 2) (R.length - 2) (rc - 2)] 69 (0, 0)) := HT3.out.off.keep hf2 hfpf
        have hn3 : W3.drew.heap[W.heap.size]? = some (.cells #[.int .i64 (x : Int)] 3 (0, 0)) := HT3.out.off.keep hn2 hfpn
        have hn4 : (W3.drew.setCell ⟨fb, 0, none⟩ (.slice (cutAt (cutAt ra rc 2) (rc - 2) x) (R.length - 2 - x) (rc - 2 - x))).heap[W.heap.size]? = some (.cells #[.int .i64 (x : Int)] 3 (0, 0)) := (set_stay fb 0 _ (show W.heap.size ≠ fb by omega)).trans hn3
        have hcx : ∀ U : World, U.heap[W.heap.size]? = some (.cells #[.int .i64 (x : Int)] 3 (0, 0)) → U.cell? ⟨W.heap.size, 0, none⟩ = some (.int .i64 (x : Int)) := fun U hU => by rw [cell_row hU]; rfl
        refine wp_region_held_drew (S := fun w' => w'.cell? ⟨W.heap.size, 0, none⟩ = some (.int .i64 (x : Int))) (by kernel_rfl) (hcx _ hn3) (fun st0 => ?_)
        refine take_to 0 32 (.pointer (some ⟨fb, 0, none⟩)) rfl (by kernel_rfl) (by kernel_rfl) (by kernel_rfl) (fun _ _ _ h => h) rfl (by rfl) (fun w hw => by rfl) st0 ?_
        simp only [Act.put, List.setIfInBounds_toArray, List.set_cons_zero, List.set_cons_succ]
        refine take_to 1 33 (.pointer (some ⟨fb, 0, none⟩)) rfl (by kernel_rfl) (by kernel_rfl) (by kernel_rfl) (fun _ _ _ h => h) rfl (by rfl) (fun w hw => by rfl) st0 ?_
        simp only [Act.put, List.setIfInBounds_toArray, List.set_cons_zero, List.set_cons_succ]
        refine take_to 2 34 (.pointer (some ⟨fb, 0, none⟩)) rfl (by kernel_rfl) (by kernel_rfl) (by kernel_rfl) (fun _ _ _ h => h) rfl (by rfl) (fun w hw => by rfl) st0 ?_
        simp only [Act.put, List.setIfInBounds_toArray, List.set_cons_zero, List.set_cons_succ]
        refine take_to 3 35 (.pointer (some ⟨fb, 0, none⟩)) rfl (by kernel_rfl) (by kernel_rfl) (by kernel_rfl) (fun _ _ _ h => h) rfl (by rfl) (fun w hw => by rfl) st0 ?_
        simp only [Act.put, List.setIfInBounds_toArray, List.set_cons_zero, List.set_cons_succ]
        refine take_to 5 37 (.int .i64 (x : Int)) rfl (by kernel_rfl) (by kernel_rfl) (by kernel_rfl) (fun _ _ _ h => h) rfl (by rfl) (fun w hw => op_load _ _ 3 (.tmp 5) rfl (.pointer (some ⟨_, 0, none⟩)) _ rfl (run_loadAny w _ 0 3 _ Try.isAgg3 hw)) st0 ?_
        simp only [Act.put, List.setIfInBounds_toArray, List.set_cons_zero, List.set_cons_succ]
        refine step_to 4 36 (.slice (cutAt ra rc 2) (R.length - 2) (rc - 2)) W3.drew rfl (by kernel_rfl) rfl (by rfl) (op_load _ _ 28 (.tmp 35) rfl (.pointer (some ⟨_, 0, none⟩)) _ rfl (run_loadAny _ _ 0 28 _ Try.isAgg28 (by rw [cell_row hf3]; rfl))) st0 ?_
        simp only [Act.put, List.setIfInBounds_toArray, List.set_cons_zero, List.set_cons_succ]
        refine step_to 6 38 (.slice (cutAt (cutAt ra rc 2) (rc - 2) x) (R.length - 2 - x) (rc - 2 - x)) W3.drew rfl (by kernel_rfl) rfl (by rfl) (op_cut28 _ _ 28 (.tmp 36) (some (.tmp 37)) none none rfl _ _ rfl (run_cut_from _ (cutAt ra rc 2) (R.length - 2) (rc - 2) x hxl)) st0 ?_
        simp only [Act.put, List.setIfInBounds_toArray, List.set_cons_zero, List.set_cons_succ]
        refine take_to 7 39 (.pointer (some ⟨fb, 0, none⟩)) rfl (by kernel_rfl) (by kernel_rfl) (by kernel_rfl) (fun _ _ _ h => h) rfl (by rfl) (fun w hw => by rfl) st0 ?_
        simp only [Act.put, List.setIfInBounds_toArray, List.set_cons_zero, List.set_cons_succ]
        refine take_to 8 40 (.pointer (some ⟨fb, 0, none⟩)) rfl (by kernel_rfl) (by kernel_rfl) (by kernel_rfl) (fun _ _ _ h => h) rfl (by rfl) (fun w hw => by rfl) st0 ?_
        simp only [Act.put, List.setIfInBounds_toArray, List.set_cons_zero, List.set_cons_succ]
        refine step_store_to 9 (W3.drew.setCell ⟨fb, 0, none⟩ (.slice (cutAt (cutAt ra rc 2) (rc - 2) x) (R.length - 2 - x) (rc - 2 - x))) rfl (by kernel_rfl) rfl (by rfl) 28 (.tmp 40) (.tmp 38) rfl (.pointer (some ⟨fb, 0, none⟩)) (.slice (cutAt (cutAt ra rc 2) (rc - 2) x) (R.length - 2 - x) (rc - 2 - x)) rfl rfl (store28 _ _ _ _ _ _ _ (by rw [cell_row hf3]; rfl) (frozen_row hf3)) (hcx _ hn4) ?_
        refine wpAnyH_done (by kernel_rfl) ?_ _
        have HEND : Hid (TextEnd W fb mb o base C (.slice ua L.length uc) L ra rc R (.returned (.bool true)) (W3.drew.setCell ⟨fb, 0, none⟩ (.slice (cutAt (cutAt ra rc 2) (rc - 2) x) (R.length - 2 - x) (rc - 2 - x)))) := by
          have hl3 : ((R.drop 2).drop x).length = R.length - 2 - x := by rw [List.length_drop, List.length_drop]
          have hothf : Oth 69 W3.drew (W3.drew.setCell ⟨fb, 0, none⟩ (.slice (cutAt (cutAt ra rc 2) (rc - 2) x) (R.length - 2 - x) (rc - 2 - x))) := fun q D t fr ht hq => by
            refine (set_stay fb 0 _ (fun e => ?_)).trans hq
            subst e
            rw [hf3] at hq
            simp at hq
            exact ht hq.2.1.symm
          refine .inr ⟨(R.drop 2).take x, (R.drop 2).drop x, HRT.out, rfl, v3, cutAt (cutAt ra rc 2) (rc - 2) x, rc - 2 - x, ⟨?_, ?_, hothf mb _ 26 _ (by decide) HT3.out.box⟩, ?_, (HT3.out.own.belowW (below_drewN _ _ 1)).oth hothf (by decide) (by decide), fun q hq => ?_⟩
          · refine ((o2.mono (fun i hi => by simp at hi; simp [hi])).trans HT3.out.off (fun i hi => .inl (by simp at hi ⊢; rcases hi with hi | hi; exact .inr (.inl hi); exact .inr (.inr hi)))).drew.setCell _ _ (.inl (by simp))
          · rw [hl3, heap_set_same (o := 0) (.slice (cutAt (cutAt ra rc 2) (rc - 2) x) (R.length - 2 - x) (rc - 2 - x)) hf3]
            rfl
          · intro V hV
            have := (hV.from 2 hl2).from x (by rw [List.length_drop]; exact hxl)
            rw [hl3]
            rw [List.length_drop] at this
            exact this
          · rcases HT3.out.wh q hq with h | h
            · exact .inl (by simpa using (show q ∈ (Value.slice ua L.length uc).ownBlock.toList by rw [h]; simp))
            · exact .inr (Nat.le_trans o2.size h)
        clear hcx hn4 hn3 hf3 hfpf hfpn hown st0 hm2 hu2 hn2 hf2 o2 hm hu hC hb HH HSL HR0 HNUM hB1 hB1d hcn0 hs1 hoth2 hbx2 hfx2 HT3
        go_wp2
        go_ret
        exact HEND.out
    · refine take_to 2 8 (.bool false) rfl (by kernel_rfl) (by kernel_rfl) (by kernel_rfl) (fun _ _ _ h => h) rfl (by rfl) (fun w hw => by rfl) rfl ?_
      simp only [Act.put, List.setIfInBounds_toArray, List.set_cons_zero, List.set_cons_succ]
      refine take_to 3 9 (.bool false) rfl (by kernel_rfl) (by kernel_rfl) (by kernel_rfl) (fun _ _ _ h => h) rfl (by rfl) (fun w hw => by rfl) rfl ?_
      simp only [Act.put, List.setIfInBounds_toArray, List.set_cons_zero, List.set_cons_succ]
      refine take_to 4 10 (.int .i64 (x : Int)) rfl (by kernel_rfl) (by kernel_rfl) (by kernel_rfl) (fun _ _ _ h => h) rfl (by rfl) (fun w hw => op_load _ _ 3 (.tmp 5) rfl (.pointer (some ⟨_, 0, none⟩)) _ rfl (run_loadAny w _ 0 3 _ Try.isAgg3 (hw ▸ hbx2))) rfl ?_
      simp only [Act.put, List.setIfInBounds_toArray, List.set_cons_zero, List.set_cons_succ]
      refine take_to 5 11 (.pointer (some ⟨fb, 0, none⟩)) rfl (by kernel_rfl) (by kernel_rfl) (by kernel_rfl) (fun _ _ _ h => h) rfl (by rfl) (fun w hw => by rfl) rfl ?_
      simp only [Act.put, List.setIfInBounds_toArray, List.set_cons_zero, List.set_cons_succ]
      refine take_to 6 12 (.pointer (some ⟨fb, 0, none⟩)) rfl (by kernel_rfl) (by kernel_rfl) (by kernel_rfl) (fun _ _ _ h => h) rfl (by rfl) (fun w hw => by rfl) rfl ?_
      simp only [Act.put, List.setIfInBounds_toArray, List.set_cons_zero, List.set_cons_succ]
      refine take_to 7 13 (.pointer (some ⟨fb, 0, none⟩)) rfl (by kernel_rfl) (by kernel_rfl) (by kernel_rfl) (fun _ _ _ h => h) rfl (by rfl) (fun w hw => by rfl) rfl ?_
      simp only [Act.put, List.setIfInBounds_toArray, List.set_cons_zero, List.set_cons_succ]
      refine take_to 8 14 (.slice (cutAt ra rc 2) (R.length - 2) (rc - 2)) rfl (by kernel_rfl) (by kernel_rfl) (by kernel_rfl) (fun _ _ _ h => h) rfl (by rfl) (fun w hw => op_load _ _ 28 (.tmp 13) rfl (.pointer (some ⟨_, 0, none⟩)) _ rfl (run_loadAny w _ 0 28 _ Try.isAgg28 (hw ▸ hfx2))) rfl ?_
      simp only [Act.put, List.setIfInBounds_toArray, List.set_cons_zero, List.set_cons_succ]
      refine take_to 9 15 (.int .i64 ((R.length - 2 : Nat) : Int)) rfl (by kernel_rfl) (by kernel_rfl) (by kernel_rfl) (fun _ _ _ h => h) rfl (by rfl) (fun w hw => op_len _ _ (.tmp 14) 28 5 Try.underlying28 rfl _ _ _ rfl) rfl ?_
      simp only [Act.put, List.setIfInBounds_toArray, List.set_cons_zero, List.set_cons_succ]
      refine take_to 10 16 (.bool true) rfl (by kernel_rfl) (by kernel_rfl) (by kernel_rfl) (fun _ _ _ h => h) rfl (by rfl) (fun w hw => op_gtr3 _ _ (.tmp 10) (.tmp 15) _ rfl _ _ rfl rfl true (by simp; omega)) rfl ?_
      simp only [Act.put, List.setIfInBounds_toArray, List.set_cons_zero, List.set_cons_succ]
      refine take_to 11 17 (.bool true) rfl (by kernel_rfl) (by kernel_rfl) (by kernel_rfl) (fun _ _ _ h => h) rfl (by rfl) (fun w hw => by rfl) rfl ?_
      simp only [Act.put, List.setIfInBounds_toArray, List.set_cons_zero, List.set_cons_succ]
      refine wpAnyH_done (by kernel_rfl) ?_ _
      have HR : Hid (rdT R = none) := by
        rw [Hid]
        unfold rdT
        rw [HR0.out]
        simp only
        rw [if_neg (by rw [List.length_drop]; exact hxl)]
      have HO := hide o2
      clear hB1 hB1d hcn0 HNUM HSL HH hm hC hu hs1 o2 hf2 hn2 hm2 hoth2 hu2 hbx2 hfx2 HR0
      go_wp2
      go_ret
      exact .inl ⟨HR.out, rfl, HO.out⟩
end Go.Proofs.Ytjcobejaldfibaa
