/- A part of it: SMkW. -/
import Derived.Test.YteeembildppgmaaGreatM40
import Derived.Test.YteeembildppgmaaGreatM10
import Derived.Deep.DeepCutAuto
namespace Go.Proofs.YteeembildppgmaaGreat
open Go.RowKit
set_option linter.unusedVariables false
set_option linter.unusedSimpArgs false
theorem append_whereG {w w' : World} {base n m bytes : Nat} {t e ty : TypeId} {z v v' x : Value} {xs news : List Value} (ht : Tryz.prog.underlying t = some (.slice e)) (hinfo : (Tryz.prog.info? e).map (fun i => (i.zero, i.size, i.bytes)) = some (some z, 1, bytes)) (hown : w.ownsRow base e 1 v n xs) (hx : Enc.Row w x m news) (hl : news.length = m) (h1 : ∀ u ∈ news, u.oneCell' = true) (h63 : (n + m) * bytes ≤ 140737488355328) (hb63 : n + m ≤ 140737488355328) (hm : 0 < m)
    (hr : (Builtin.append_ #[t, t] ty #[v, x]).run Tryz.prog w = .ok v' w') : ∀ q, v'.ownBlock = some q → v.ownBlock = some q ∨ w.heap.size ≤ q := by
  obtain ⟨i0, hi0, hz⟩ := Option.map_eq_some_iff.1 hinfo
  simp only [Prod.mk.injEq] at hz
  obtain ⟨hz0, hzs, hzb⟩ := hz
  obtain ⟨ao, c, rfl, c1, c2, hrow⟩ := hx
  obtain ⟨g', o', ea, hrng⟩ := hrow (fun e => by rw [e] at hl; simp at hl; omega)
  subst ea
  have hsrc : Src Tryz.prog i0.size t (.slice (some ⟨g', o', none⟩) m c) m news w := by
    rw [hzs]
    exact Src.ofSlice w ht ⟨g', o', none⟩ m c news (by omega) (fun j u hj => by rw [Addr.add_lit]; exact hrng j u hj) h1
  have grow : ∀ (b : Option Addr) (cp : Nat) (olds : List Value), cp < n + m → (Builtin.firstCells i0.size n (.slice b n cp)).run Tryz.prog w.drew = .ok olds.toArray w.drew → v = .slice b n cp → ∀ q, v'.ownBlock = some q → w.heap.size ≤ q := fun b cp olds hcp hold e q hq => by
    have := run_append_grow_src w t t ty _ i0 _ ht hi0 hz0 b n cp olds hold _ m news hsrc hcp (by omega) (by rw [hzb]; exact growslice_fits hcp h63)
    rw [e, this] at hr
    injection hr with e1 e2
    rw [← e1] at hq
    have : w.heap.size = q := by simpa [Value.ownBlock] using hq
    omega
  rcases hown.2 with ⟨rfl, rfl⟩ | ⟨g, cap, cur, rfl, hb, hg, h1', h2', h3', h4'⟩
  · intro q hq
    exact .inr (grow none 0 [] (by omega) (by rw [hzs]; exact run_firstCells_none w.drew 1 0 0 0) rfl q hq)
  · rcases Nat.lt_or_ge cap (n + m) with hlt | hge
    · intro q hq
      refine .inr (grow (some ⟨g, 0, none⟩) cap xs hlt ?_ rfl q hq)
      rw [hzs]
      refine run_firstCells_some w.drew 1 n ⟨g, 0, none⟩ n cap xs hown.1 (fun j u hj => ?_)
      rw [Addr.add_lit, Nat.zero_add]
      have hj' := (List.getElem?_eq_some_iff.1 hj).1
      rw [hown.1, Nat.mul_one] at hj'
      rw [← h4', Nat.mul_one, List.getElem?_take_of_lt hj'] at hj
      show w.cell? _ = _
      rw [cell_of_row w g _ _ _ _ hg]
      simpa using hj
    · have := run_append_room_src (P := Tryz.prog) w t t ty _ i0 ht hi0 g 0 n cap _ m news hsrc hge (fun j hj => by rw [cell_of_row w g _ _ _ _ hg]; simp [hzs]; omega) (fun j hj => frozen_of_row w g _ _ _ hg)
      intro q hq
      rw [this] at hr
      injection hr with e1 e2
      rw [← e1] at hq
      exact .inl hq
theorem wpList_append_new {ops : Array Oper} {rest : List Oper} {o : Oper} {a : Act} {w : World} {Q : Exit → Act → World → Prop}
    (hg : o.guard = none) (s x : Operand) (t : TypeId) (hop : o.op = Op.call { callee := Callee.builtin Builtin.append, args := #[s, x], argTypes := #[t, t] })
    (base : Nat) (e : TypeId) (z : Value) (bytes : Nat) (ht : Tryz.prog.underlying t = some (.slice e)) (hi : (Tryz.prog.info? e).map (fun i => (i.zero, i.size, i.bytes)) = some (some z, 1, bytes)) (hzs : z.cells.size = 1)
    (v : Value) (n : Nat) (xs : List Value) (y : Value) (m : Nat) (news : List Value) (hs : a.eval s = v) (hy : a.eval x = y) (hown : w.ownsRow base e 1 v n xs)
    (hx : Enc.Row w y m news) (hl : news.length = m) (h1 : ∀ u ∈ news, u.oneCell' = true) (hm : 0 < m)
    (hbytes : (n + m) * bytes ≤ 140737488355328) (h63 : n + m ≤ 140737488355328) (hbase : base ≤ w.heap.size)
    (hK : ∀ v' w', w'.ownsRow base e 1 v' (n + m) (xs ++ news) → w.grownBy w' v.ownBlock → (∀ q, v'.ownBlock = some q → v.ownBlock = some q ∨ w.heap.size ≤ q) → wpList Tryz.prog ops Q rest (a.put o.dst v') w') :
    wpList Tryz.prog ops Q (o :: rest) a w := by
  refine wpList_plain hg fun K hK' => ?_
  obtain ⟨v', w', hrun, r1, r2⟩ := Enc.run_append_row (P := Tryz.prog) w base t o.type e z 1 bytes ht hi hzs (by omega) v n xs hown y m news hx (by omega) h1 hbytes h63 hbase
  have r3 := append_whereG ht hi hown hx hl h1 hbytes h63 hm hrun
  unfold Oper.wp
  simp [execOp, hop, resolve, invoke, builtin, hs, hy, hrun, Result.andThen]
  exact hK' _ _ (hK v' w' r1 r2 r3)
theorem Tryz.info9m : (Tryz.prog.info? 9).map (fun i => (i.zero, i.size, i.bytes)) = some (some (.string { data := #[] }), 1, 16) := by kernel_rfl
theorem build31 (w : World) (x : Int) : (Instr.buildSlice 31 1 #[(0, .int .i64 x)]).run Tryz.prog w = .ok (.slice (some ⟨w.heap.size, 0, none⟩) 1 1) (w.alloc (.cells #[.int .i64 x] 3)) := by kernel_rfl
theorem build32 (w : World) (x : ByteArray) : (Instr.buildSlice 32 1 #[(0, .string x)]).run Tryz.prog w = .ok (.slice (some ⟨w.heap.size, 0, none⟩) 1 1) (w.alloc (.cells #[.string x] 9)) := by kernel_rfl
theorem row1 (W : World) (u : Value) (t : TypeId) : Enc.Row (W.alloc (.cells #[u] t)) (.slice (some ⟨W.heap.size, 0, none⟩) 1 1) 1 [u] :=
  ⟨_, 1, rfl, Nat.le_refl _, by simp only [maxLen]; omega, fun _ => ⟨W.heap.size, 0, rfl, fun j v hv => by rw [Nat.zero_add, cell_of_row _ _ _ _ _ _ (World.alloc_heap_new W _)]; simpa using hv⟩⟩
theorem below_alloc1 (W : World) (o : Obj) : Below W.heap.size W (W.alloc o) := ((Off.refl [] W).alloc _).below (Nat.le_refl _) (by simp)
theorem i64_and255 (n : Int) : bits .and .i64 n 255 = n % 256 := by
  have h127 : (BitVec.ofInt 64 255).toNat = 2 ^ 8 - 1 := by decide
  have key : (BitVec.ofInt 64 n &&& BitVec.ofInt 64 255).toNat = (n % ((2 ^ 64 : Nat) : Int)).toNat % 2 ^ 8 := by
    rw [BitVec.toNat_and, BitVec.toNat_ofInt, h127, Nat.and_two_pow_sub_one_eq_mod]
  show IntKind.i64.wrap ((BitVec.ofInt 64 n &&& BitVec.ofInt 64 255).toNat : Nat) = n % 256
  rw [key, IntKind.wrap_i64]
  omega
theorem op_and3 (ρ : Operand → Value) (o : Oper) (x y : Operand) (tt : TypeId) (ho : o.op = .binOp .and 3 x y tt) (n : Int) (hx : ρ x = .int .i64 n) (hy : ρ y = .int .i64 255) {w : World} : (execOp ρ o).run Tryz.prog w = .ok (.value (.int .i64 (n % 256))) w := by
  have hu := Tryz.underlying3
  rw [← i64_and255]
  unfold execOp
  simp only [ho, hx, hy]
  simp [go_sem, hu, Op.intBits, bits]
structure WOp (w : World) (b o k : Nat) (P F : Int) (da : Option Addr) (dn dc : Nat) (bs : List UInt8) : Prop where
  cP : w.cell? ⟨b, o + k * 7 + 2, none⟩ = some (.int .i64 P)
  cF : w.cell? ⟨b, o + k * 7 + 3, none⟩ = some (.int .i64 F)
  cD : w.cell? ⟨b, o + k * 7 + 6, none⟩ = some (.slice da dn dc)
  len : bs.length = dn
  cap : dn ≤ dc
  max : dc ≤ maxLen
  rd : 0 < dn → ∃ g o', da = some ⟨g, o', none⟩ ∧ g < w.heap.size ∧ w.rangeAt g o' (secCells bs)
def IsW (w : World) (a : Option Addr) (len : Nat) : Prop :=
  len ≤ 9223372036854775807 ∧ ∀ k, k < len → ∃ b o P F da dn dc bs, a = some ⟨b, o, none⟩ ∧ b < w.heap.size ∧ WOp w b o k P F da dn dc bs
theorem secCells_take (bs : List UInt8) (n : Nat) : secCells (bs.take n) = (secCells bs).take n := by unfold secCells; rw [List.map_take]
theorem WOp.first {w : World} {b o k : Nat} {P F : Int} {da : Option Addr} {dn dc : Nat} {bs : List UInt8} (h : WOp w b o k P F da dn dc bs) (hd : 60 < dn) : ∃ g o', da = some ⟨g, o', none⟩ ∧ g < w.heap.size ∧ w.rangeAt g o' (secCells (bs.take 60)) := by
  obtain ⟨g, o', e, hg, hr⟩ := h.rd (by omega)
  refine ⟨g, o', e, hg, fun j v hv => hr j v ?_⟩
  rw [secCells_take] at hv
  by_cases hj : j < 60
  · rwa [List.getElem?_take_of_lt hj] at hv
  · rw [List.getElem?_take_eq_none (by omega)] at hv
    cases hv
theorem rng_keep {w0 w : World} {g o : Nat} {vs : List Value} (h : w0.rangeAt g o vs) (hg : g < w0.heap.size) (hb : Below w0.heap.size w0 w) : w.rangeAt g o vs := fun j v hv => (hb.cell (p := ⟨g, _, none⟩) hg).trans (h j v hv)
theorem mkCell {Ms : List (Nat × Dt)} {i : Nat} {x : Nat × Dt} (h : Ms[i]? = some x) : (mkCells Ms)[i]? = some (.int .i64 (x.1 : Int)) := by unfold mkCells; rw [List.getElem?_map, h]; rfl
theorem wsCell {Ms : List (Nat × Dt)} {i : Nat} {x : Nat × Dt} (h : Ms[i]? = some x) : (wsCells Ms)[i]? = some (.string (strOf (areaN x.2 3))) := by unfold wsCells; rw [List.getElem?_map, h]; rfl
theorem own_cell {w : World} {b e : Nat} {v : Value} {n : Nat} {xs : List Value} (h : w.ownsRow b e 1 v n xs) (hn : 0 < n) : ∃ g cap, v = .slice (some ⟨g, 0, none⟩) n cap ∧ ∀ i u, xs[i]? = some u → w.cell? ⟨g, i, none⟩ = some u := by
  rcases h.2 with ⟨_, e⟩ | ⟨g, cap, cur, rfl, _, hg, _, _, _, htk⟩
  · omega
  · refine ⟨g, cap, rfl, fun i u hu => ?_⟩
    have hi := (List.getElem?_eq_some_iff.1 hu).1
    rw [h.1, Nat.mul_one] at hi
    rw [← htk, List.getElem?_take_of_lt (by omega)] at hu
    rw [cell_of_row w g _ _ _ _ hg]
    simpa using hu
theorem own_slice {w : World} {b e : Nat} {v : Value} {n : Nat} {xs : List Value} (h : w.ownsRow b e 1 v n xs) : ∃ a cap, v = .slice a n cap := by
  rcases h.2 with ⟨rfl, rfl⟩ | ⟨g, cap, cur, rfl, _⟩
  · exact ⟨none, 0, rfl⟩
  · exact ⟨_, cap, rfl⟩
structure Mk1 (w0 w : World) (s : Nat) (c : Cf) (v9 v10 : Value) (Ms : List (Nat × Dt)) (TB WB : Nat) : Prop where
  is : ∃ xs S T V rs, StAt w0 w s c xs S ∧ MkI c S T V rs Ms TB WB ∧ MkL T rs Ms ∧ MRows w0 w xs v9 v10 Ms Ms
structure Mk2 (w0 w : World) (s : Nat) (c : Cf) (v9 v10 : Value) (Mf Ms : List (Nat × Dt)) (TB WB : Nat) : Prop where
  is : ∃ xs S T V rs, StAt w0 w s c xs S ∧ MkI c S T V rs Ms TB WB ∧ MRows w0 w xs v9 v10 Mf Mf
theorem Mk1.to2 {w0 w : World} {s : Nat} {c : Cf} {v9 v10 : Value} {Ms : List (Nat × Dt)} {TB WB : Nat} (h : Mk1 w0 w s c v9 v10 Ms TB WB) : Mk2 w0 w s c v9 v10 Ms (Ms.take Ms.length) TB WB := by
  obtain ⟨xs, S, T, V, rs, h1, h2, _, h3⟩ := h.is
  exact ⟨xs, S, T, V, rs, h1, by rw [List.take_length]; exact h2, h3⟩
theorem step_call5_to {P : Program} {ops : Array Oper} {Q : Exit → Act → World → Prop} {md : Region.Mode} {S : World → Prop} {o : Oper} {fuel : Nat} {listed : Array Bool} {a : Act} {w : World} {R : Ending → World → Prop} (j dst f : Nat) (hj : ops[j]? = some o)
    (hr : Region.ready md ops listed = [j]) (hd : o.dst = some dst) (hw : Region.wanted o (yielded ops a.tmps) = true) (x y z u v : Operand) (ts : Array TypeId) (hop : o.op = Op.call { callee := Callee.value (Operand.func f), args := #[x, y, z, u, v], argTypes := ts })
    (vx vy vz vu vv : Value) (hx : a.eval x = vx) (hy : a.eval y = vy) (hz : a.eval z = vz) (hu : a.eval u = vu) (hv : a.eval v = vv) (hcf : ∀ args w, (callFunc f args).run P w = .ok (.enter f args) w) (hc : Calls P f #[vx, vy, vz, vu, vv] w R)
    (hK : ∀ e w', R e w' → ∃ v, e = .returned v ∧ S w' ∧ wpAnyH P md ops Q S fuel (listed.setIfInBounds j true) (a.put (some dst) v) w') : wpAnyH P md ops Q S (fuel + 1) listed a w := by
  refine step_by j hj hr (fun K hK' => ?_)
  rw [if_pos hw]
  have hrun : (execOp a.eval o).run P w = .ok (.enter f #[vx, vy, vz, vu, vv]) w := by
    have hff : a.eval (.func f) = .func (.func f) #[] #[] := rfl
    unfold execOp
    simp [hop, resolve, hff, Deferred.ofValue, invoke, hx, hy, hz, hu, hv]
    exact hcf _ _
  unfold Oper.wp
  rw [hrun, Oper.upon_enter]
  refine hc.mono ?_
  intro e w' hR
  obtain ⟨v, rfl, hS, hW⟩ := hK e w' hR
  show K (a.put o.dst v) w'
  rw [hd]
  exact hK' _ _ hS hW
theorem Tryz.enters13m (args : Array Value) (w : World) : (callFunc 13 args).run Tryz.prog w = .ok (.enter 13 args) w := by kernel_rfl
theorem run_index22 (w : World) (b o n cap i : Nat) (h : i < n) : (Instr.indexAt 22 (.slice (some ⟨b, o, none⟩) n cap) (.int .i64 (i : Int))).run Tryz.prog w = .ok (.pointer (some ⟨b, o + i * 7, none⟩)) w := by
  have hu := Tryz.underlying22
  have hs : ∀ w, (sizeOf 38).run Tryz.prog w = .ok 7 w := fun w => by kernel_rfl
  have h1 : (i : Int) < (n : Int) := by omega
  simp [go_sem, hu, hs, h1, Addr.add]
theorem op_neq28m (ρ : Operand → Value) (o : Oper) (x y : Operand) (tt : TypeId) (ho : o.op = .binOp .neq 28 x y tt) (n m : Int) (hx : ρ x = .int .i64 n) (hy : ρ y = .int .i64 m) (b : Bool) (hb : (n != m) = b) {w : World} : (execOp ρ o).run Tryz.prog w = .ok (.value (.bool b)) w := by
  have hu := Tryz.underlying28
  unfold execOp
  simp only [ho, hx, hy]
  simp [go_sem, hu, hb]
theorem rem_in (z : Int) : ∃ q : Nat, q < 3 ∧ (z.tmod 3 + 3).tmod 3 = (q : Int) ∧ IntKind.i64.wrap (z.tmod 3 + 3) = z.tmod 3 + 3 := mod_in z 3 (by omega) (by omega)
theorem Mk2.mono {w0 w : World} {s : Nat} {c : Cf} {v9 v10 : Value} {Mf Ms : List (Nat × Dt)} {TB WB TB' WB' : Nat} (h : Mk2 w0 w s c v9 v10 Mf Ms TB WB) (h1 : TB ≤ TB') (h2 : WB ≤ WB') : Mk2 w0 w s c v9 v10 Mf Ms TB' WB' := by
  obtain ⟨xs, S, T, V, rs, k1, k2, k3⟩ := h.is
  exact ⟨xs, S, T, V, rs, k1, k2.mono h1 h2, k3⟩
theorem Mk2.fewer {w0 w : World} {s : Nat} {c : Cf} {v9 v10 : Value} {Mf : List (Nat × Dt)} {k TB WB : Nat} (h : Mk2 w0 w s c v9 v10 Mf (Mf.take (k + 1)) TB WB) : Mk2 w0 w s c v9 v10 Mf (Mf.take k) TB WB := by
  obtain ⟨xs, S, T, V, rs, k1, k2, k3⟩ := h.is
  refine ⟨xs, S, T, V, rs, k1, ?_, k3⟩
  have := k2.fewer k
  rwa [List.take_take, Nat.min_eq_left (by omega)] at this
theorem last_most {Ms : List (Nat × Dt)} {k : Nat} {x : Nat × Dt} (hs : (Ms.take (k + 1)).Pairwise (fun a b => a.1 ≤ b.1)) (hx : Ms[k]? = some x) : x ∈ Ms.take (k + 1) ∧ ∀ y ∈ Ms.take (k + 1), y.1 ≤ x.1 := by
  have hk := (List.getElem?_eq_some_iff.1 hx).1
  have e : Ms.take (k + 1) = Ms.take k ++ [x] := by
    rw [List.take_succ_eq_append_getElem hk]
    rw [List.getElem?_eq_getElem hk] at hx
    cases hx
    rfl
  rw [e] at hs ⊢
  refine ⟨by simp, fun y hy => ?_⟩
  rcases List.mem_append.1 hy with hy | hy
  · exact (List.pairwise_append.1 hs).2.2 y hy x (by simp)
  · simp at hy
    subst hy
    exact Nat.le_refl _
set_option maxHeartbeats 8000000 in
set_option maxRecDepth 100000 in
theorem marks_walk {w : World} {a1 : Option Addr} {n1 c1 : Nat} {a2 : Option Addr} {n2 c2 : Nat} {zs : List Bool} (hW : IsW w a1 n1) (hB : IsBools w a2 n2 c2 zs) :
    Calls Tryz.prog 3 #[.slice a1 n1 c1, .slice a2 n2 c2] w fun e w' => e = .returned (.bool true) ∧ Below w.heap.size w w' := by
  have HO := hide (lopen_new (N := 1024) (m := 8) w (by omega) (by omega) (by omega) (by omega))
  have HW := hide hW
  have HBO := hide hB
  have hn1 := hW.1
  have hn2 := hB.2.1
  clear hW hB
  go_enter Tryz.func3, Tryz.ntmps3
  go_wp2_with (first
    | (go_at_call 9; refine HO.out.mono ?_; rintro e W1 ⟨s, c, rfl, _, hn, h⟩; have HN := hide (show c.n = 190 from hn); have HBG := hide (mk_begin h HN.out); clear h hn HO)
    | (go_at_call 10; refine HBG.out.mono ?_; rintro e W2 ⟨rfl, S, T, V, rs, h, I, L⟩; have HST : Hid (Mk1 w W2 s c (.slice none 0 0) (.slice none 0 0) [] (96 + 372 * 0) (8 * 0)) := ⟨[], S, T, V, rs, h, I, L, MRows.nil _ _ _⟩; clear h I L HBG S T V rs))
  go_loopw [11, 9, 10] (fun i v9 v10 wr => ∃ (j : Nat) (Ms : List (Nat × Dt)), j ≤ n1 ∧ j ≤ 15 ∧ i = .int .i64 (j : Int) ∧ Hid (Ms.length = j) ∧ Hid (Mk1 w wr s c v9 v10 Ms (96 + 372 * j) (8 * j))) (fun i _ _ _ => n1 - (intOf i).toNat)
  case atStart => exact ⟨0, [], by omega, by omega, rfl, rfl, HST.out⟩
  case round =>
    obtain ⟨j, Ms, hjn, hj15, rfl, HML, HM⟩ := hrel
    clear HST
    by_cases hn : j < n1
    · by_cases h15 : j < 15
      · go_upto_region 12 with fail
        as_aux_lemma =>
          obtain ⟨xs, S, T, V, rs, ⟨tb, ov, ps, uvs, h⟩, I, L, R⟩ := HM.out
          have hT : S.txs[0]? = some T := by rw [I.txs]; rfl
          obtain ⟨gg, x, uv, vs, cc, hov, hx, hu, t, hcell⟩ := h.txAt 0 _ hT
          have HSV := hide (save_ok h hx hT hu (fun j U hj => by omega) 1 (by rw [I.id]; rfl))
          have HAR := hide (mk_area h I HN.out (by omega))
          have HI := hide (And.intro L R)
          have hlj : Ms.length = j := HML.out
          clear h I L R hT hx hu t hcell hov HM
          go_upto_region 16 with (first
            | (go_at_call 11; refine HSV.out.mono ?_; rintro e w' ⟨rfl, hw⟩; have hw := hw.symm; subst hw)
            | (go_at_call 12; refine HAR.out.mono ?_; rintro e W2 ⟨rfl, S2, h2, I2, k2⟩; have HS2 := hide (And.intro h2 (And.intro I2 (HI.out.2.kept k2))); clear h2 I2 k2 HAR HSV))
          have HR3 := hide (And.intro (HS2.out.1.belowW (below_alloc1 W2 (.cells #[.int .i64 (T.last : Int)] 3))) (HS2.out.2.2.below (below_alloc1 W2 (.cells #[.int .i64 (T.last : Int)] 3))))
          have hb31 := build31
          go_upto_region 17 with (refine wpList_append_new rfl (.tmp 60) (.tmp 62) 31 rfl w.heap.size 3 (.int .i64 0) 8 Tryz.underlying31 Enc.Tryz.info3 rfl _ _ _ _ 1 [.int .i64 (T.last : Int)] rfl rfl HR3.out.2.mks (row1 W2 _ 3) rfl (fun u hu => by simp at hu; subst hu; rfl) (by omega) (by omega) (by omega) HR3.out.1.below.size ?_; intro u9 W4 ho4 hg4 hn4)
          clear hb31
          obtain ⟨ys4, h4, R4⟩ := HR3.out.1.addMark HR3.out.2 (T.last, dat V) ho4 hg4 hn4
          have HR5 := hide (And.intro (h4.belowW (below_alloc1 W4 (.cells #[.string (strOf (areaN (dat V) 3))] 9))) (R4.below (below_alloc1 W4 (.cells #[.string (strOf (areaN (dat V) 3))] 9))))
          clear h4 R4 ho4 hg4 hn4 HR3
          have hb32 := build32
          go_upto_region 18 with (refine wpList_append_new rfl (.tmp 64) (.tmp 66) 32 rfl w.heap.size 9 (.string { data := #[] }) 16 Tryz.underlying32 Tryz.info9m rfl _ _ _ _ 1 [.string (strOf (areaN (dat V) 3))] rfl rfl HR5.out.2.ws (row1 W4 _ 9) rfl (fun u hu => by simp at hu; subst hu; rfl) (by omega) (by omega) (by omega) HR5.out.1.below.size ?_; intro u10 W6 ho6 hg6 hn6)
          clear hb32
          obtain ⟨ys6, h6, R6⟩ := HR5.out.1.addWas HR5.out.2 (T.last, dat V) ho6 hg6 hn6
          have H6 : Hid (StIs w W6 s c ys6 tb ov ps uvs S2 ∧ MkI c S2 T V rs (Ms ++ [(T.last, dat V)]) (96 + 372 * j) (8 * j + 3) ∧ MkL T rs (Ms ++ [(T.last, dat V)]) ∧ MRows w W6 ys6 u9 u10 (Ms ++ [(T.last, dat V)]) (Ms ++ [(T.last, dat V)])) := ⟨h6, (HS2.out.2.1.mark HI.out.1).1, (HS2.out.2.1.mark HI.out.1).2, R6⟩
          have HB6 := hide h6.below
          clear h6 R6 ho6 hg6 hn6 HR5 HS2 HI
          obtain ⟨b, o, P, F, da, dn, dc, bs, ea, hb0, op⟩ := HW.out.2 j hn
          subst ea
          have OP := hide op
          clear op
          have cD6 : W6.cell? ⟨b, o + j * 7 + 6, none⟩ = some (.slice da dn dc) := (HB6.out.cell (p := ⟨b, _, none⟩) hb0).trans OP.out.cD
          have cP6 : True := trivial
          have cF6 : True := trivial
          by_cases h60 : 60 < dn
          · have hcut : (Instr.sliceAt 36 (.slice da dn dc) none (some (.int .i64 60)) none).run Tryz.prog W6 = .ok (.slice da 60 dc) W6 := Enc.run_cut_to W6 da dn dc 60 (by have := OP.out.cap; omega)
            have hgt : (60 : Int) < (dn : Int) := by omega
            go_upto_region 21 with fail
            clear cD6 cP6 cF6
            obtain ⟨q, hq3, hqe, hqw⟩ := rem_in P
            obtain ⟨f8, hf8, hfe⟩ : ∃ f8 : Nat, f8 ≤ 255 ∧ F % 256 = (f8 : Int) := ⟨(F % 256).toNat, by omega, by omega⟩
            have HWR := hide (mk_write (H6.out.1.belowW (below_drewN _ _ 1)) H6.out.2.1 H6.out.2.2.1 HN.out (by omega) (by omega) q f8 hq3 hf8 da 60 dc (bs.take 60) (by rw [List.length_take, OP.out.len]; omega) (by omega) (by have := OP.out.cap; omega) OP.out.max (fun h0 => by
              obtain ⟨g', o', e1, e2, e3⟩ := OP.out.first h60
              exact ⟨g', o', e1, e2, rng_keep e3 e2 (HB6.out.trans ((below_drewN _ _ 1).mono HB6.out.size))⟩))
            refine wp_region_held_drew (S := fun w' => Below w.heap.size w w') (by kernel_rfl) (HB6.out.trans ((below_drewN _ _ 1).mono HB6.out.size)) (fun hH => ?_)
            refine take_to 0 78 (.pointer (some ⟨s, 0, none⟩)) rfl (by kernel_rfl) (by kernel_rfl) (by kernel_rfl) (fun _ _ _ h => h) rfl (by rfl) (fun w' hw => by rfl) hH ?_
            simp only [Act.put, List.setIfInBounds_toArray, List.set_cons_zero, List.set_cons_succ]
            refine take_to 1 79 (.int .i64 1) rfl (by kernel_rfl) (by kernel_rfl) (by kernel_rfl) (fun _ _ _ h => h) rfl (by rfl) (fun w' hw => by rfl) hH ?_
            simp only [Act.put, List.setIfInBounds_toArray, List.set_cons_zero, List.set_cons_succ]
            refine take_to 2 80 (.slice (some ⟨b, o, none⟩) n1 c1) rfl (by kernel_rfl) (by kernel_rfl) (by kernel_rfl) (fun _ _ _ h => h) rfl (by rfl) (fun w' hw => by rfl) hH ?_
            simp only [Act.put, List.setIfInBounds_toArray, List.set_cons_zero, List.set_cons_succ]
            refine take_to 3 81 (.int .i64 (j : Int)) rfl (by kernel_rfl) (by kernel_rfl) (by kernel_rfl) (fun _ _ _ h => h) rfl (by rfl) (fun w' hw => by rfl) hH ?_
            simp only [Act.put, List.setIfInBounds_toArray, List.set_cons_zero, List.set_cons_succ]
            refine take_to 4 82 (.pointer (some ⟨b, o + j * 7, none⟩)) rfl (by kernel_rfl) (by kernel_rfl) (by kernel_rfl) (fun _ _ _ h => h) rfl (by rfl) (fun w' hw => op_index _ _ 22 (.tmp 80) (.tmp 81) rfl _ _ _ rfl rfl (run_index22 w' b o n1 c1 j hn)) hH ?_
            simp only [Act.put, List.setIfInBounds_toArray, List.set_cons_zero, List.set_cons_succ]
            refine take_to 5 83 (.pointer (some ⟨b, o + j * 7 + 2, none⟩)) rfl (by kernel_rfl) (by kernel_rfl) (by kernel_rfl) (fun _ _ _ h => h) rfl (by rfl) (fun w' hw => by rfl) hH ?_
            simp only [Act.put, List.setIfInBounds_toArray, List.set_cons_zero, List.set_cons_succ]
            refine take_to 6 84 (.int .i64 P) rfl (by kernel_rfl) (by kernel_rfl) (by kernel_rfl) (fun _ _ _ h => h) rfl (by rfl) (fun w' hw => op_load _ _ 3 (.tmp 83) rfl (.pointer (some ⟨_, _, none⟩)) _ rfl (run_loadAny w' _ _ 3 _ Tryz.isAgg3 ((hw.cell (p := ⟨b, _, none⟩) hb0).trans OP.out.cP))) hH ?_
            simp only [Act.put, List.setIfInBounds_toArray, List.set_cons_zero, List.set_cons_succ]
            refine take_to 7 85 (.int .i64 (P.tmod 3)) rfl (by kernel_rfl) (by kernel_rfl) (by kernel_rfl) (fun _ _ _ h => h) rfl (by rfl) (fun w' hw => op_rem3 _ _ (.tmp 84) (.const (.int .i64 3)) _ rfl P 3 rfl rfl _ (by omega) rfl) hH ?_
            simp only [Act.put, List.setIfInBounds_toArray, List.set_cons_zero, List.set_cons_succ]
            refine take_to 8 86 (.int .i64 (P.tmod 3 + 3)) rfl (by kernel_rfl) (by kernel_rfl) (by kernel_rfl) (fun _ _ _ h => h) rfl (by rfl) (fun w' hw => op_add3 _ _ (.tmp 85) (.const (.int .i64 3)) _ rfl _ 3 rfl rfl _ hqw) hH ?_
            simp only [Act.put, List.setIfInBounds_toArray, List.set_cons_zero, List.set_cons_succ]
            refine take_to 9 87 (.int .i64 (q : Int)) rfl (by kernel_rfl) (by kernel_rfl) (by kernel_rfl) (fun _ _ _ h => h) rfl (by rfl) (fun w' hw => op_rem3 _ _ (.tmp 86) (.const (.int .i64 3)) _ rfl _ 3 rfl rfl _ (by omega) hqe) hH ?_
            simp only [Act.put, List.setIfInBounds_toArray, List.set_cons_zero, List.set_cons_succ]
            refine take_to 10 88 (.slice (some ⟨b, o, none⟩) n1 c1) rfl (by kernel_rfl) (by kernel_rfl) (by kernel_rfl) (fun _ _ _ h => h) rfl (by rfl) (fun w' hw => by rfl) hH ?_
            simp only [Act.put, List.setIfInBounds_toArray, List.set_cons_zero, List.set_cons_succ]
            refine take_to 11 89 (.int .i64 (j : Int)) rfl (by kernel_rfl) (by kernel_rfl) (by kernel_rfl) (fun _ _ _ h => h) rfl (by rfl) (fun w' hw => by rfl) hH ?_
            simp only [Act.put, List.setIfInBounds_toArray, List.set_cons_zero, List.set_cons_succ]
            refine take_to 12 90 (.pointer (some ⟨b, o + j * 7, none⟩)) rfl (by kernel_rfl) (by kernel_rfl) (by kernel_rfl) (fun _ _ _ h => h) rfl (by rfl) (fun w' hw => op_index _ _ 22 (.tmp 88) (.tmp 89) rfl _ _ _ rfl rfl (run_index22 w' b o n1 c1 j hn)) hH ?_
            simp only [Act.put, List.setIfInBounds_toArray, List.set_cons_zero, List.set_cons_succ]
            refine take_to 13 91 (.pointer (some ⟨b, o + j * 7 + 3, none⟩)) rfl (by kernel_rfl) (by kernel_rfl) (by kernel_rfl) (fun _ _ _ h => h) rfl (by rfl) (fun w' hw => by rfl) hH ?_
            simp only [Act.put, List.setIfInBounds_toArray, List.set_cons_zero, List.set_cons_succ]
            refine take_to 14 92 (.int .i64 F) rfl (by kernel_rfl) (by kernel_rfl) (by kernel_rfl) (fun _ _ _ h => h) rfl (by rfl) (fun w' hw => op_load _ _ 3 (.tmp 91) rfl (.pointer (some ⟨_, _, none⟩)) _ rfl (run_loadAny w' _ _ 3 _ Tryz.isAgg3 ((hw.cell (p := ⟨b, _, none⟩) hb0).trans OP.out.cF))) hH ?_
            simp only [Act.put, List.setIfInBounds_toArray, List.set_cons_zero, List.set_cons_succ]
            refine take_to 15 93 (.int .i64 (f8 : Int)) rfl (by kernel_rfl) (by kernel_rfl) (by kernel_rfl) (fun _ _ _ h => h) rfl (by rfl) (fun w' hw => hfe ▸ op_and3 _ _ (.tmp 92) (.const (.int .i64 255)) _ rfl F rfl rfl) hH ?_
            simp only [Act.put, List.setIfInBounds_toArray, List.set_cons_zero, List.set_cons_succ]
            refine take_to 16 94 (.slice da 60 dc) rfl (by kernel_rfl) (by kernel_rfl) (by kernel_rfl) (fun _ _ _ h => h) rfl (by rfl) (fun w' hw => by rfl) hH ?_
            simp only [Act.put, List.setIfInBounds_toArray, List.set_cons_zero, List.set_cons_succ]
            refine step_call5_to 17 95 13 rfl (by kernel_rfl) rfl (by rfl) (.tmp 78) (.tmp 79) (.tmp 87) (.tmp 93) (.tmp 94) _ rfl _ _ _ _ _ rfl rfl rfl rfl rfl Tryz.enters13m HWR.out ?_
            rintro e W7 ⟨rfl, S7, T7, V7, rs7, h7, I7, L7, k7⟩
            have hB7 : Below w.heap.size w W7 := h7.below
            refine ⟨_, rfl, hB7, ?_⟩
            simp only [Act.put, List.setIfInBounds_toArray, List.set_cons_zero, List.set_cons_succ]
            have HM7 : Hid (Mk1 w W7 s c u9 u10 (Ms ++ [(T.last, dat V)]) (96 + 372 * (j + 1)) (8 * (j + 1))) := ⟨_, S7, T7, V7, rs7, h7, I7.mono (by omega) (by omega), L7, (H6.out.2.2.2.below (below_drewN _ _ 1)).kept k7⟩
            have HL7 : Hid ((Ms ++ [(T.last, dat V)]).length = j + 1) := by rw [Hid, List.length_append, HML.out]; rfl
            refine step_to 18 96 (.bool false) W7 rfl (by kernel_rfl) rfl (by rfl) (op_neq28m _ _ (.tmp 95) (.const (.int .i64 0)) _ rfl 0 0 rfl rfl false rfl) hB7 ?_
            simp only [Act.put, List.setIfInBounds_toArray, List.set_cons_zero, List.set_cons_succ]
            refine wpAnyH_done (by kernel_rfl) ?_ _
            clear hB7 h7 I7 L7 k7 hH HWR
            go_wp2
            go_roundw
            case rel => exact ⟨j + 1, _, by omega, by omega, by go_num, HL7.out, HM7.out⟩
            case measure => simp [intOf] <;> omega
          · have hgt : ¬ ((60 : Int) < (dn : Int)) := by omega
            go_upto_region 21 with fail
            clear cD6 cP6 cF6
            obtain ⟨q, hq3, hqe, hqw⟩ := rem_in P
            obtain ⟨f8, hf8, hfe⟩ : ∃ f8 : Nat, f8 ≤ 255 ∧ F % 256 = (f8 : Int) := ⟨(F % 256).toNat, by omega, by omega⟩
            have HWR := hide (mk_write (H6.out.1.belowW (below_drewN _ _ 1)) H6.out.2.1 H6.out.2.2.1 HN.out (by omega) (by omega) q f8 hq3 hf8 da dn dc bs OP.out.len (by omega) OP.out.cap OP.out.max (fun h0 => by
              obtain ⟨g', o', e1, e2, e3⟩ := OP.out.rd h0
              exact ⟨g', o', e1, e2, rng_keep e3 e2 (HB6.out.trans ((below_drewN _ _ 1).mono HB6.out.size))⟩))
            refine wp_region_held_drew (S := fun w' => Below w.heap.size w w') (by kernel_rfl) (HB6.out.trans ((below_drewN _ _ 1).mono HB6.out.size)) (fun hH => ?_)
            refine take_to 0 78 (.pointer (some ⟨s, 0, none⟩)) rfl (by kernel_rfl) (by kernel_rfl) (by kernel_rfl) (fun _ _ _ h => h) rfl (by rfl) (fun w' hw => by rfl) hH ?_
            simp only [Act.put, List.setIfInBounds_toArray, List.set_cons_zero, List.set_cons_succ]
            refine take_to 1 79 (.int .i64 1) rfl (by kernel_rfl) (by kernel_rfl) (by kernel_rfl) (fun _ _ _ h => h) rfl (by rfl) (fun w' hw => by rfl) hH ?_
            simp only [Act.put, List.setIfInBounds_toArray, List.set_cons_zero, List.set_cons_succ]
            refine take_to 2 80 (.slice (some ⟨b, o, none⟩) n1 c1) rfl (by kernel_rfl) (by kernel_rfl) (by kernel_rfl) (fun _ _ _ h => h) rfl (by rfl) (fun w' hw => by rfl) hH ?_
            simp only [Act.put, List.setIfInBounds_toArray, List.set_cons_zero, List.set_cons_succ]
            refine take_to 3 81 (.int .i64 (j : Int)) rfl (by kernel_rfl) (by kernel_rfl) (by kernel_rfl) (fun _ _ _ h => h) rfl (by rfl) (fun w' hw => by rfl) hH ?_
            simp only [Act.put, List.setIfInBounds_toArray, List.set_cons_zero, List.set_cons_succ]
            refine take_to 4 82 (.pointer (some ⟨b, o + j * 7, none⟩)) rfl (by kernel_rfl) (by kernel_rfl) (by kernel_rfl) (fun _ _ _ h => h) rfl (by rfl) (fun w' hw => op_index _ _ 22 (.tmp 80) (.tmp 81) rfl _ _ _ rfl rfl (run_index22 w' b o n1 c1 j hn)) hH ?_
            simp only [Act.put, List.setIfInBounds_toArray, List.set_cons_zero, List.set_cons_succ]
            refine take_to 5 83 (.pointer (some ⟨b, o + j * 7 + 2, none⟩)) rfl (by kernel_rfl) (by kernel_rfl) (by kernel_rfl) (fun _ _ _ h => h) rfl (by rfl) (fun w' hw => by rfl) hH ?_
            simp only [Act.put, List.setIfInBounds_toArray, List.set_cons_zero, List.set_cons_succ]
            refine take_to 6 84 (.int .i64 P) rfl (by kernel_rfl) (by kernel_rfl) (by kernel_rfl) (fun _ _ _ h => h) rfl (by rfl) (fun w' hw => op_load _ _ 3 (.tmp 83) rfl (.pointer (some ⟨_, _, none⟩)) _ rfl (run_loadAny w' _ _ 3 _ Tryz.isAgg3 ((hw.cell (p := ⟨b, _, none⟩) hb0).trans OP.out.cP))) hH ?_
            simp only [Act.put, List.setIfInBounds_toArray, List.set_cons_zero, List.set_cons_succ]
            refine take_to 7 85 (.int .i64 (P.tmod 3)) rfl (by kernel_rfl) (by kernel_rfl) (by kernel_rfl) (fun _ _ _ h => h) rfl (by rfl) (fun w' hw => op_rem3 _ _ (.tmp 84) (.const (.int .i64 3)) _ rfl P 3 rfl rfl _ (by omega) rfl) hH ?_
            simp only [Act.put, List.setIfInBounds_toArray, List.set_cons_zero, List.set_cons_succ]
            refine take_to 8 86 (.int .i64 (P.tmod 3 + 3)) rfl (by kernel_rfl) (by kernel_rfl) (by kernel_rfl) (fun _ _ _ h => h) rfl (by rfl) (fun w' hw => op_add3 _ _ (.tmp 85) (.const (.int .i64 3)) _ rfl _ 3 rfl rfl _ hqw) hH ?_
            simp only [Act.put, List.setIfInBounds_toArray, List.set_cons_zero, List.set_cons_succ]
            refine take_to 9 87 (.int .i64 (q : Int)) rfl (by kernel_rfl) (by kernel_rfl) (by kernel_rfl) (fun _ _ _ h => h) rfl (by rfl) (fun w' hw => op_rem3 _ _ (.tmp 86) (.const (.int .i64 3)) _ rfl _ 3 rfl rfl _ (by omega) hqe) hH ?_
            simp only [Act.put, List.setIfInBounds_toArray, List.set_cons_zero, List.set_cons_succ]
            refine take_to 10 88 (.slice (some ⟨b, o, none⟩) n1 c1) rfl (by kernel_rfl) (by kernel_rfl) (by kernel_rfl) (fun _ _ _ h => h) rfl (by rfl) (fun w' hw => by rfl) hH ?_
            simp only [Act.put, List.setIfInBounds_toArray, List.set_cons_zero, List.set_cons_succ]
            refine take_to 11 89 (.int .i64 (j : Int)) rfl (by kernel_rfl) (by kernel_rfl) (by kernel_rfl) (fun _ _ _ h => h) rfl (by rfl) (fun w' hw => by rfl) hH ?_
            simp only [Act.put, List.setIfInBounds_toArray, List.set_cons_zero, List.set_cons_succ]
            refine take_to 12 90 (.pointer (some ⟨b, o + j * 7, none⟩)) rfl (by kernel_rfl) (by kernel_rfl) (by kernel_rfl) (fun _ _ _ h => h) rfl (by rfl) (fun w' hw => op_index _ _ 22 (.tmp 88) (.tmp 89) rfl _ _ _ rfl rfl (run_index22 w' b o n1 c1 j hn)) hH ?_
            simp only [Act.put, List.setIfInBounds_toArray, List.set_cons_zero, List.set_cons_succ]
            refine take_to 13 91 (.pointer (some ⟨b, o + j * 7 + 3, none⟩)) rfl (by kernel_rfl) (by kernel_rfl) (by kernel_rfl) (fun _ _ _ h => h) rfl (by rfl) (fun w' hw => by rfl) hH ?_
            simp only [Act.put, List.setIfInBounds_toArray, List.set_cons_zero, List.set_cons_succ]
            refine take_to 14 92 (.int .i64 F) rfl (by kernel_rfl) (by kernel_rfl) (by kernel_rfl) (fun _ _ _ h => h) rfl (by rfl) (fun w' hw => op_load _ _ 3 (.tmp 91) rfl (.pointer (some ⟨_, _, none⟩)) _ rfl (run_loadAny w' _ _ 3 _ Tryz.isAgg3 ((hw.cell (p := ⟨b, _, none⟩) hb0).trans OP.out.cF))) hH ?_
            simp only [Act.put, List.setIfInBounds_toArray, List.set_cons_zero, List.set_cons_succ]
            refine take_to 15 93 (.int .i64 (f8 : Int)) rfl (by kernel_rfl) (by kernel_rfl) (by kernel_rfl) (fun _ _ _ h => h) rfl (by rfl) (fun w' hw => hfe ▸ op_and3 _ _ (.tmp 92) (.const (.int .i64 255)) _ rfl F rfl rfl) hH ?_
            simp only [Act.put, List.setIfInBounds_toArray, List.set_cons_zero, List.set_cons_succ]
            refine take_to 16 94 (.slice da dn dc) rfl (by kernel_rfl) (by kernel_rfl) (by kernel_rfl) (fun _ _ _ h => h) rfl (by rfl) (fun w' hw => by rfl) hH ?_
            simp only [Act.put, List.setIfInBounds_toArray, List.set_cons_zero, List.set_cons_succ]
            refine step_call5_to 17 95 13 rfl (by kernel_rfl) rfl (by rfl) (.tmp 78) (.tmp 79) (.tmp 87) (.tmp 93) (.tmp 94) _ rfl _ _ _ _ _ rfl rfl rfl rfl rfl Tryz.enters13m HWR.out ?_
            rintro e W7 ⟨rfl, S7, T7, V7, rs7, h7, I7, L7, k7⟩
            have hB7 : Below w.heap.size w W7 := h7.below
            refine ⟨_, rfl, hB7, ?_⟩
            simp only [Act.put, List.setIfInBounds_toArray, List.set_cons_zero, List.set_cons_succ]
            have HM7 : Hid (Mk1 w W7 s c u9 u10 (Ms ++ [(T.last, dat V)]) (96 + 372 * (j + 1)) (8 * (j + 1))) := ⟨_, S7, T7, V7, rs7, h7, I7.mono (by omega) (by omega), L7, (H6.out.2.2.2.below (below_drewN _ _ 1)).kept k7⟩
            have HL7 : Hid ((Ms ++ [(T.last, dat V)]).length = j + 1) := by rw [Hid, List.length_append, HML.out]; rfl
            refine step_to 18 96 (.bool false) W7 rfl (by kernel_rfl) rfl (by rfl) (op_neq28m _ _ (.tmp 95) (.const (.int .i64 0)) _ rfl 0 0 rfl rfl false rfl) hB7 ?_
            simp only [Act.put, List.setIfInBounds_toArray, List.set_cons_zero, List.set_cons_succ]
            refine wpAnyH_done (by kernel_rfl) ?_ _
            clear hB7 h7 I7 L7 k7 hH HWR
            go_wp2
            go_roundw
            case rel => exact ⟨j + 1, _, by omega, by omega, by go_num, HL7.out, HM7.out⟩
            case measure => simp [intOf] <;> omega
      · as_aux_lemma =>
          obtain ⟨_, _, _, _, _, _, _, _, R0⟩ := HM.out.is
          obtain ⟨a9, p9, e9⟩ := own_slice R0.mks
          rw [HML.out] at e9
          subst e9
          have HM2 := hide (HM.out.to2.mono (TB' := 5676) (WB' := 120 + 3 * (j - j)) (by omega) (by omega))
          rw [HML.out] at HM2
          clear HM R0
          have hsb : IntKind.i64.wrap ((j : Int) - 1) = (j : Int) - 1 := by rw [IntKind.wrap_i64]; omega
          generalize wr = wq at *
          go_wp2
          go_loopw [17] (fun i wr => ∃ (k : Nat) (z : Int), k ≤ j ∧ i = .int .i64 z ∧ z = (k : Int) - 1 ∧ Hid (Mk2 w wr s c (.slice a9 j p9) u10 Ms (Ms.take k) 5676 (120 + 3 * (j - k)))) (fun i _ => (intOf i + 1).toNat)
          case atStart => exact ⟨j, (j : Int) - 1, by omega, rfl, rfl, HM2.out⟩
          case round =>
            obtain ⟨k0, z, hk0, rfl, hz, HM⟩ := hrel
            clear HM2
            rcases Nat.eq_zero_or_pos k0 with h0 | h0
            · subst h0
              have hz1 : z = -1 := by omega
              subst hz1
              obtain ⟨xs, S, T, V, rs, ⟨tb, ov, ps, uvs, h⟩, I, R⟩ := HM.out.is
              have HCM := hide (mk_commit h I (by omega))
              clear h I R HM hz
              go_wp2_with (first
                | (go_at_call 15; refine HCM.out.mono ?_; rintro e W5 ⟨rfl, hb5⟩; have HB5 := hide hb5; have HAW := hide (awake_true W5); clear hb5 HCM)
                | (go_at_call 16; refine HAW.out.mono ?_; rintro e W6 ⟨rfl, hb6⟩; have HB6 := hide (HB5.out.trans (hb6.mono HB5.out.size)); clear hb6 HAW))
              go_ret
              exact ⟨rfl, HB6.out⟩
            · obtain ⟨k, rfl⟩ : ∃ k, k0 = k + 1 := ⟨k0 - 1, by omega⟩
              have hz1 : z = (k : Int) := by omega
              subst hz1
              clear hz h0
              obtain ⟨x0, hx0⟩ : ∃ x0, Ms[k]? = some x0 := ⟨_, List.getElem?_eq_getElem (by have := HML.out; omega)⟩
              by_cases hk2 : k < n2
              · obtain ⟨b2, o2, ea2, hb2, hc2⟩ := HBO.out.2.2 k hk2
                subst ea2
                have hbw : Below w.heap.size w wr := by
                  obtain ⟨_, _, _, _, _, h, _, _⟩ := HM.out.is
                  exact h.below
                have cz : wr.cell? ⟨b2, o2 + k, none⟩ = some (.bool (zs.getD k false)) := (hbw.cell (p := ⟨b2, _, none⟩) hb2).trans hc2
                clear hc2 hbw
                generalize zs.getD k false = sk at *
                cases sk with
                | true =>
                  have HN4 := hide HM.out.fewer
                  clear HM
                  go_wp2
                  go_roundw
                  case rel => exact ⟨k, (k : Int) - 1, by omega, by go_num, rfl, HN4.out.mono (Nat.le_refl _) (by omega)⟩
                  case measure => simp [intOf] <;> omega
                | false =>
                  as_aux_lemma =>
                    go_upto_region 27 with fail
                    clear cz
                    obtain ⟨xs, S, T, V, rs, ⟨tb, ov, ps, uvs, h⟩, I, R⟩ := HM.out.is
                    obtain ⟨g9, p9', e9, c9⟩ := own_cell R.mks (by rw [HML.out]; omega)
                    obtain ⟨hx1, hx2⟩ := last_most I.sort hx0
                    have HBK := hide (mk_back h I HN.out (by omega) (by omega) x0.1 x0.2 hx1 hx2)
                    have HR := hide R
                    have cm : wr.cell? ⟨g9, k, none⟩ = some (.int .i64 (x0.1 : Int)) := c9 k _ (mkCell hx0)
                    injection e9 with e91 e92 e93
                    subst e91 e93
                    clear h I R c9 hx1 hx2 HM e92
                    go_upto_region 29 with (go_at_call 14; refine HBK.out.mono ?_; rintro e W3 ⟨rfl, S3, T3, V3, rs3, ⟨tb3, ov3, ps3, uvs3, h3⟩, I3, hD3, k3⟩; have HR3 := hide (HR.out.kept k3); have HAR := hide (mk_area h3 I3 HN.out (by omega)); rw [hD3] at HAR; clear h3 I3 k3 HBK hD3)
                    clear cm
                    go_upto_region 30 with (go_at_call 12; refine HAR.out.mono ?_; rintro e W4 ⟨rfl, S4, h4, I4, k4⟩; have HR4 := hide (HR3.out.kept k4); have HM4 : Hid (Mk2 w W4 s c (.slice (some ⟨g9, 0, none⟩) j p9) u10 Ms (Ms.take (k + 1)) 5676 (120 + 3 * (j - (k + 1)) + 3)) := ⟨_, S4, T3, V3, rs3, h4.at, I4, HR4.out⟩; clear h4 I4 k4 HAR HR3)
                    obtain ⟨g10, p10', e10, c10⟩ := own_cell HR4.out.ws (by rw [HML.out]; omega)
                    have cw : W4.cell? ⟨g10, k, none⟩ = some (.string (strOf (areaN x0.2 3))) := c10 k _ (wsCell hx0)
                    rw [HML.out] at e10
                    have HE10 := hide e10
                    subst e10
                    clear c10 HR4
                    have HN4 := hide HM4.out.fewer
                    clear HM4
                    generalize strOf (areaN x0.2 3) = sv at *
                    have hse : (sv.toList == sv.toList) = true := by simp
                    go_wp2
                    go_roundw
                    case rel => exact ⟨k, (k : Int) - 1, by omega, by go_num, rfl, HN4.out.mono (Nat.le_refl _) (by omega)⟩
                    case measure => simp [intOf] <;> omega
              · have hk2' : ¬ ((k : Int) < (n2 : Int)) := by omega
                as_aux_lemma =>
                  go_upto_region 27 with fail
                  obtain ⟨xs, S, T, V, rs, ⟨tb, ov, ps, uvs, h⟩, I, R⟩ := HM.out.is
                  obtain ⟨g9, p9', e9, c9⟩ := own_cell R.mks (by rw [HML.out]; omega)
                  obtain ⟨hx1, hx2⟩ := last_most I.sort hx0
                  have HBK := hide (mk_back h I HN.out (by omega) (by omega) x0.1 x0.2 hx1 hx2)
                  have HR := hide R
                  have cm : wr.cell? ⟨g9, k, none⟩ = some (.int .i64 (x0.1 : Int)) := c9 k _ (mkCell hx0)
                  injection e9 with e91 e92 e93
                  subst e91 e93
                  clear h I R c9 hx1 hx2 HM e92
                  go_upto_region 29 with (go_at_call 14; refine HBK.out.mono ?_; rintro e W3 ⟨rfl, S3, T3, V3, rs3, ⟨tb3, ov3, ps3, uvs3, h3⟩, I3, hD3, k3⟩; have HR3 := hide (HR.out.kept k3); have HAR := hide (mk_area h3 I3 HN.out (by omega)); rw [hD3] at HAR; clear h3 I3 k3 HBK hD3)
                  clear cm
                  go_upto_region 30 with (go_at_call 12; refine HAR.out.mono ?_; rintro e W4 ⟨rfl, S4, h4, I4, k4⟩; have HR4 := hide (HR3.out.kept k4); have HM4 : Hid (Mk2 w W4 s c (.slice (some ⟨g9, 0, none⟩) j p9) u10 Ms (Ms.take (k + 1)) 5676 (120 + 3 * (j - (k + 1)) + 3)) := ⟨_, S4, T3, V3, rs3, h4.at, I4, HR4.out⟩; clear h4 I4 k4 HAR HR3)
                  obtain ⟨g10, p10', e10, c10⟩ := own_cell HR4.out.ws (by rw [HML.out]; omega)
                  have cw : W4.cell? ⟨g10, k, none⟩ = some (.string (strOf (areaN x0.2 3))) := c10 k _ (wsCell hx0)
                  rw [HML.out] at e10
                  have HE10 := hide e10
                  subst e10
                  clear c10 HR4
                  have HN4 := hide HM4.out.fewer
                  clear HM4
                  generalize strOf (areaN x0.2 3) = sv at *
                  have hse : (sv.toList == sv.toList) = true := by simp
                  go_wp2
                  go_roundw
                  case rel => exact ⟨k, (k : Int) - 1, by omega, by go_num, rfl, HN4.out.mono (Nat.le_refl _) (by omega)⟩
                  case measure => simp [intOf] <;> omega
    · as_aux_lemma =>
        obtain ⟨_, _, _, _, _, _, _, _, R0⟩ := HM.out.is
        obtain ⟨a9, p9, e9⟩ := own_slice R0.mks
        rw [HML.out] at e9
        subst e9
        have HM2 := hide (HM.out.to2.mono (TB' := 5676) (WB' := 120 + 3 * (j - j)) (by omega) (by omega))
        rw [HML.out] at HM2
        clear HM R0
        have hsb : IntKind.i64.wrap ((j : Int) - 1) = (j : Int) - 1 := by rw [IntKind.wrap_i64]; omega
        generalize wr = wq at *
        go_wp2
        go_loopw [17] (fun i wr => ∃ (k : Nat) (z : Int), k ≤ j ∧ i = .int .i64 z ∧ z = (k : Int) - 1 ∧ Hid (Mk2 w wr s c (.slice a9 j p9) u10 Ms (Ms.take k) 5676 (120 + 3 * (j - k)))) (fun i _ => (intOf i + 1).toNat)
        case atStart => exact ⟨j, (j : Int) - 1, by omega, rfl, rfl, HM2.out⟩
        case round =>
          obtain ⟨k0, z, hk0, rfl, hz, HM⟩ := hrel
          clear HM2
          rcases Nat.eq_zero_or_pos k0 with h0 | h0
          · subst h0
            have hz1 : z = -1 := by omega
            subst hz1
            obtain ⟨xs, S, T, V, rs, ⟨tb, ov, ps, uvs, h⟩, I, R⟩ := HM.out.is
            have HCM := hide (mk_commit h I (by omega))
            clear h I R HM hz
            go_wp2_with (first
              | (go_at_call 15; refine HCM.out.mono ?_; rintro e W5 ⟨rfl, hb5⟩; have HB5 := hide hb5; have HAW := hide (awake_true W5); clear hb5 HCM)
              | (go_at_call 16; refine HAW.out.mono ?_; rintro e W6 ⟨rfl, hb6⟩; have HB6 := hide (HB5.out.trans (hb6.mono HB5.out.size)); clear hb6 HAW))
            go_ret
            exact ⟨rfl, HB6.out⟩
          · obtain ⟨k, rfl⟩ : ∃ k, k0 = k + 1 := ⟨k0 - 1, by omega⟩
            have hz1 : z = (k : Int) := by omega
            subst hz1
            clear hz h0
            obtain ⟨x0, hx0⟩ : ∃ x0, Ms[k]? = some x0 := ⟨_, List.getElem?_eq_getElem (by have := HML.out; omega)⟩
            by_cases hk2 : k < n2
            · obtain ⟨b2, o2, ea2, hb2, hc2⟩ := HBO.out.2.2 k hk2
              subst ea2
              have hbw : Below w.heap.size w wr := by
                obtain ⟨_, _, _, _, _, h, _, _⟩ := HM.out.is
                exact h.below
              have cz : wr.cell? ⟨b2, o2 + k, none⟩ = some (.bool (zs.getD k false)) := (hbw.cell (p := ⟨b2, _, none⟩) hb2).trans hc2
              clear hc2 hbw
              generalize zs.getD k false = sk at *
              cases sk with
              | true =>
                have HN4 := hide HM.out.fewer
                clear HM
                go_wp2
                go_roundw
                case rel => exact ⟨k, (k : Int) - 1, by omega, by go_num, rfl, HN4.out.mono (Nat.le_refl _) (by omega)⟩
                case measure => simp [intOf] <;> omega
              | false =>
                as_aux_lemma =>
                  go_upto_region 27 with fail
                  clear cz
                  obtain ⟨xs, S, T, V, rs, ⟨tb, ov, ps, uvs, h⟩, I, R⟩ := HM.out.is
                  obtain ⟨g9, p9', e9, c9⟩ := own_cell R.mks (by rw [HML.out]; omega)
                  obtain ⟨hx1, hx2⟩ := last_most I.sort hx0
                  have HBK := hide (mk_back h I HN.out (by omega) (by omega) x0.1 x0.2 hx1 hx2)
                  have HR := hide R
                  have cm : wr.cell? ⟨g9, k, none⟩ = some (.int .i64 (x0.1 : Int)) := c9 k _ (mkCell hx0)
                  injection e9 with e91 e92 e93
                  subst e91 e93
                  clear h I R c9 hx1 hx2 HM e92
                  go_upto_region 29 with (go_at_call 14; refine HBK.out.mono ?_; rintro e W3 ⟨rfl, S3, T3, V3, rs3, ⟨tb3, ov3, ps3, uvs3, h3⟩, I3, hD3, k3⟩; have HR3 := hide (HR.out.kept k3); have HAR := hide (mk_area h3 I3 HN.out (by omega)); rw [hD3] at HAR; clear h3 I3 k3 HBK hD3)
                  clear cm
                  go_upto_region 30 with (go_at_call 12; refine HAR.out.mono ?_; rintro e W4 ⟨rfl, S4, h4, I4, k4⟩; have HR4 := hide (HR3.out.kept k4); have HM4 : Hid (Mk2 w W4 s c (.slice (some ⟨g9, 0, none⟩) j p9) u10 Ms (Ms.take (k + 1)) 5676 (120 + 3 * (j - (k + 1)) + 3)) := ⟨_, S4, T3, V3, rs3, h4.at, I4, HR4.out⟩; clear h4 I4 k4 HAR HR3)
                  obtain ⟨g10, p10', e10, c10⟩ := own_cell HR4.out.ws (by rw [HML.out]; omega)
                  have cw : W4.cell? ⟨g10, k, none⟩ = some (.string (strOf (areaN x0.2 3))) := c10 k _ (wsCell hx0)
                  rw [HML.out] at e10
                  have HE10 := hide e10
                  subst e10
                  clear c10 HR4
                  have HN4 := hide HM4.out.fewer
                  clear HM4
                  generalize strOf (areaN x0.2 3) = sv at *
                  have hse : (sv.toList == sv.toList) = true := by simp
                  go_wp2
                  go_roundw
                  case rel => exact ⟨k, (k : Int) - 1, by omega, by go_num, rfl, HN4.out.mono (Nat.le_refl _) (by omega)⟩
                  case measure => simp [intOf] <;> omega
            · have hk2' : ¬ ((k : Int) < (n2 : Int)) := by omega
              as_aux_lemma =>
                go_upto_region 27 with fail
                obtain ⟨xs, S, T, V, rs, ⟨tb, ov, ps, uvs, h⟩, I, R⟩ := HM.out.is
                obtain ⟨g9, p9', e9, c9⟩ := own_cell R.mks (by rw [HML.out]; omega)
                obtain ⟨hx1, hx2⟩ := last_most I.sort hx0
                have HBK := hide (mk_back h I HN.out (by omega) (by omega) x0.1 x0.2 hx1 hx2)
                have HR := hide R
                have cm : wr.cell? ⟨g9, k, none⟩ = some (.int .i64 (x0.1 : Int)) := c9 k _ (mkCell hx0)
                injection e9 with e91 e92 e93
                subst e91 e93
                clear h I R c9 hx1 hx2 HM e92
                go_upto_region 29 with (go_at_call 14; refine HBK.out.mono ?_; rintro e W3 ⟨rfl, S3, T3, V3, rs3, ⟨tb3, ov3, ps3, uvs3, h3⟩, I3, hD3, k3⟩; have HR3 := hide (HR.out.kept k3); have HAR := hide (mk_area h3 I3 HN.out (by omega)); rw [hD3] at HAR; clear h3 I3 k3 HBK hD3)
                clear cm
                go_upto_region 30 with (go_at_call 12; refine HAR.out.mono ?_; rintro e W4 ⟨rfl, S4, h4, I4, k4⟩; have HR4 := hide (HR3.out.kept k4); have HM4 : Hid (Mk2 w W4 s c (.slice (some ⟨g9, 0, none⟩) j p9) u10 Ms (Ms.take (k + 1)) 5676 (120 + 3 * (j - (k + 1)) + 3)) := ⟨_, S4, T3, V3, rs3, h4.at, I4, HR4.out⟩; clear h4 I4 k4 HAR HR3)
                obtain ⟨g10, p10', e10, c10⟩ := own_cell HR4.out.ws (by rw [HML.out]; omega)
                have cw : W4.cell? ⟨g10, k, none⟩ = some (.string (strOf (areaN x0.2 3))) := c10 k _ (wsCell hx0)
                rw [HML.out] at e10
                have HE10 := hide e10
                subst e10
                clear c10 HR4
                have HN4 := hide HM4.out.fewer
                clear HM4
                generalize strOf (areaN x0.2 3) = sv at *
                have hse : (sv.toList == sv.toList) = true := by simp
                go_wp2
                go_roundw
                case rel => exact ⟨k, (k : Int) - 1, by omega, by go_num, rfl, HN4.out.mono (Nat.le_refl _) (by omega)⟩
                case measure => simp [intOf] <;> omega
end Go.Proofs.YteeembildppgmaaGreat
