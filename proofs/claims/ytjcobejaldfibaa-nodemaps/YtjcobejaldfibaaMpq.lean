/- NodeMaps: one step of the script after the other. -/
import Derived.Test.YtjcobejaldfibaaMpp
import Derived.Test.YtjcobejaldfibaaFdw
import Derived.Lib.ConvBytes
namespace Go.Proofs.Ytjcobejaldfibaa
open Go.RowKit
set_option linter.unusedVariables false
set_option linter.unusedSimpArgs false

theorem strBytes (w : World) (l : List UInt8) : ∃ c, (convert 9 28 (.string (strOf l))).run Try.prog w = .ok (.slice (some ⟨w.heap.size, 0, none⟩) l.length c) (Lib.bytesWorld w 5 (strOf l)) ∧ Below w.heap.size w (Lib.bytesWorld w 5 (strOf l)) ∧ (l.length ≤ 140737488355328 → Sl (Lib.bytesWorld w 5 (strOf l)) (.slice (some ⟨w.heap.size, 0, none⟩) l.length c) l) := by
  have hs : (strOf l).size = l.length := by simp [strOf, ByteArray.size]
  have h := Lib.run_convert_string_bytes (P := Try.prog) w 9 28 5 (strOf l) Try.underlying9 Try.underlying28 Try.underlying5
  rw [hs] at h
  refine ⟨_, h, ⟨rfl, rfl, rfl, by rw [Lib.bytesWorld_size]; omega, fun k hk => Lib.bytesWorld_at_old w 5 (strOf l) k hk⟩, fun hl => ⟨_, _, rfl, grownCap_ge w _ _ _, grownCap_le_maxLen w l.length 0 5 (by unfold maxLen; omega), fun _ => ⟨w.heap.size, 0, rfl, fun j u hu => ?_⟩⟩⟩
  have hj : j < l.length := by
    have := (List.getElem?_eq_some_iff.1 hu).1
    rwa [length_secCells] at this
  rw [Nat.zero_add, Lib.bytesWorld_cell w 5 (strOf l) j (by rw [hs]; exact hj)]
  rw [secCells_get l j hj] at hu
  have e : (strOf l).data.toList.getD j 0 = l[j] := by simp [strOf, hj]
  rw [e]
  exact hu
theorem othRow {t : TypeId} {w : World} {b : Nat} {c0 c1 c2 c3 c4 : Value} (h : Box t w b c0 c1 c2 c3 c4) (cs : Array Value) : Oth t w (w.setRow b cs) := fun q C s fr hs hq => by
  refine (setRow_other w b q cs (fun e => ?_)).trans hq
  subst e
  rw [h.heap] at hq
  simp at hq
  exact hs hq.2.1.symm
theorem op_call2_to {P : Program} {ops : Array Oper} {Q : Exit → Act → World → Prop} {o : Oper} {a : Act} {w : World} {K : Act → World → Prop} {i : Nat} {R : Ending → World → Prop} (dst f : Nat) (hi : ops[i]? = some o)
    (hd : o.dst = some dst) (hw : Region.wanted o (yielded ops a.tmps) = true) (x y : Operand) (ts : Array TypeId) (hop : o.op = Op.call { callee := Callee.value (Operand.func f), args := #[x, y], argTypes := ts })
    (vx vy : Value) (hx : a.eval x = vx) (hy : a.eval y = vy) (hcf : ∀ args w, (callFunc f args).run P w = .ok (.enter f args) w) (hc : Calls P f #[vx, vy] w R)
    (hK : ∀ e w', R e w' → ∃ v, e = .returned v ∧ K (a.put (some dst) v) w') : wpOp P ops Q i K a w := by
  refine wpOp_step hi (fun K' hK' => ?_)
  rw [if_pos hw]
  have hrun : (execOp a.eval o).run P w = .ok (.enter f #[vx, vy]) w := by
    have hff : a.eval (.func f) = .func (.func f) #[] #[] := rfl
    unfold execOp
    simp [hop, resolve, hff, Deferred.ofValue, invoke, hx, hy]
    exact hcf _ _
  unfold Oper.wp
  rw [hrun, Oper.upon_enter]
  refine hc.mono ?_
  intro e w' hR
  obtain ⟨v, rfl, hW⟩ := hK e w' hR
  show K' (a.put o.dst v) w'
  rw [hd]
  exact hK' _ _ hW
theorem putO {w : World} {N : Nd} {vk vv vi kv yv : Value} {K V : List UInt8} {k : Nat} (hp : MP N k) (hk40 : k ≤ 40) (hkl : K.length ≤ 140737488355328) (hyl : V.length ≤ 140737488355328) (h : NdAt w N vk vv vi) (hk : Sl w kv K) (hy : Sl w yv V) :
    Calls Try.prog 10 #[.agg #[.bool true, vk, vv, vi, .int .i64 0], kv, yv] w fun e w' => ∃ a b c, e = .returned (.agg #[.bool true, a, b, c, .int .i64 0]) ∧ Below w.heap.size w w' ∧ NdOwn w.heap.size w' (putN N K V) a b c := by
  have := put_any h (hp.fits hk40) hk hy hkl hyl (hp.rk hk40) (hp.rv hk40)
  rw [hp.leaf, hp.next] at this
  refine this.mono ?_
  rintro e w' ⟨a, b, c, rfl, h1, h2⟩
  exact ⟨a, b, c, by rw [hp.leaf, hp.next], h1, h2⟩
theorem delO {w : World} {N : Nd} {vk vv vi kv : Value} {K : List UInt8} {k : Nat} (hp : MP N k) (hk40 : k ≤ 40) (h : NdAt w N vk vv vi) (hk : Sl w kv K) :
    Calls Try.prog 9 #[.agg #[.bool true, vk, vv, vi, .int .i64 0], kv] w fun e w' => ∃ a b c, e = .returned (.tuple #[.agg #[.bool true, a, b, c, .int .i64 0], .bool (hasK N.keys K)]) ∧ Below w.heap.size w w' ∧ NdOwn w.heap.size w' (delN N K) a b c := by
  have := del_any h (hp.fits hk40) hk
  rw [hp.leaf, hp.next] at this
  refine this.mono ?_
  rintro e w' ⟨a, b, c, rfl, h1, h2⟩
  exact ⟨a, b, c, by rw [hp.leaf, hp.next, delH_leaf hp.leaf hp.mat], h1, h2⟩
/-- A row of strings of one's own, newer than all that was there. -/
structure New (w W W' : World) (v : Value) (L : List (List UInt8)) : Prop where
  below : Below W.heap.size W W'
  own : W'.ownsRow W.heap.size 9 1 v L.length (strCells L)
theorem New.row {w W W' : World} {v : Value} {L : List (List UInt8)} (h : New w W W' v L) (hw : w.heap.size ≤ W.heap.size) : SRow w W' v L := ⟨owns_mono h.own hw⟩
theorem New.start (w W : World) : New w W (W.alloc (.cells #[] 9)) (.slice (some ⟨W.heap.size, 0, none⟩) 0 0) [] := ⟨(Below.refl _ _).alloc (Nat.le_refl _) _, owns_new W W.heap.size 9 (Nat.le_refl _)⟩
theorem New.grow {w W W1 W2 : World} {u v : Value} {L M : List (List UInt8)} {n m : Nat} (h : New w W W1 u L) (hn : L.length = n) (hm : M.length = m) (ho : W2.ownsRow W.heap.size 9 1 v (n + m) (strCells L ++ strCells M)) (hg : W1.grownBy W2 u.ownBlock) : New w W W2 v (L ++ M) := by
  subst hn hm
  exact ⟨grown_below h.below h.own hg, by rw [List.length_append, strCells_append]; exact ho⟩
theorem New.next {w W W1 W2 : World} {v : Value} {L : List (List UInt8)} (h : New w W W1 v L) (hb : Below W1.heap.size W1 W2) : New w W W2 v L := ⟨h.below.trans (hb.mono h.below.size), owns_below h.own hb (Nat.le_refl _)⟩
theorem New.ap {w W W' : World} {v u : Value} {L M : List (List UInt8)} (h : New w W W' v L) (hu : SRow w W u M) (g : Nat) (hg : v.ownBlock = some g) : u.ownBlock ≠ some g := fun e => by
  have := (h.own.lt g hg).1
  have := (hu.own.lt g e).2
  omega
/-- One string in a row. -/
theorem row_one (W : World) (s : List UInt8) : Row (W.alloc (.cells #[.string (strOf s)] 9)) (.slice (some ⟨W.heap.size, 0, none⟩) 1 1) 1 (strCells [s]) :=
  ⟨_, 1, rfl, Nat.le_refl _, by simp only [maxLen]; omega, fun _ => ⟨W.heap.size, 0, rfl, fun j u hu => by rw [Nat.zero_add, cell_row (heap_alloc_new W _)]; simpa [strCells] using hu⟩⟩
/-- .. at a step that may come up beside others. -/
theorem op_append_row {ops : Array Oper} {Q : Exit → Act → World → Prop} {o : Oper} {a : Act} {w : World} {K : Act → World → Prop} {i : Nat} (dst : Nat) (hi : ops[i]? = some o)
    (hdst : o.dst = some dst) (hgd : o.guard = none) (s x : Operand) (t : TypeId) (hop : o.op = Op.call { callee := Callee.builtin Builtin.append, args := #[s, x], argTypes := #[t, t] })
    (base : Nat) (e : TypeId) (z : Value) (size bytes : Nat) (ht : Try.prog.underlying t = some (.slice e)) (hin : (Try.prog.info? e).map (fun i => (i.zero, i.size, i.bytes)) = some (some z, size, bytes)) (hzs : z.cells.size = size) (hsz : 0 < size)
    (v : Value) (n : Nat) (xs : List Value) (y : Value) (m : Nat) (news : List Value) (hs : a.eval s = v) (hy : a.eval x = y) (hown : w.ownsRow base e size v n xs)
    (hx : Row w y m news) (hl : news.length = m * size) (h1 : ∀ u ∈ news, u.oneCell' = true)
    (hbytes : (n + m) * bytes ≤ 140737488355328) (h63 : n + m ≤ 140737488355328) (hbase : base ≤ w.heap.size)
    (hK : ∀ v' w', w'.ownsRow base e size v' (n + m) (xs ++ news) → w.grownBy w' v.ownBlock → K (a.put (some dst) v') w') : wpOp Try.prog ops Q i K a w := by
  refine wpOp_step hi (fun K' hK' => ?_)
  have hw : Region.wanted o (yielded ops a.tmps) = true := by simp [Region.wanted, hgd]
  rw [if_pos hw]
  obtain ⟨v', w', hrun, r1, r2⟩ := run_append_row (P := Try.prog) w base t o.type e z size bytes ht hin hzs hsz v n xs hown y m news hx hl h1 hbytes h63 hbase
  have hE : (execOp a.eval o).run Try.prog w = .ok (.value v') w' := by
    simp [execOp, hop, resolve, invoke, builtin, hs, hy, hrun, Result.andThen]
  unfold Oper.wp
  rw [hE, Oper.upon_value, hdst]
  exact hK' _ _ (hK v' w' r1 r2)
theorem op_convW (ρ : Operand → Value) (o : Oper) (s d : TypeId) (x : Operand) (ho : o.op = .convert s d x) (px v : Value) (hx : ρ x = px) {P : Program} {w w' : World} (hr : (convert s d px).run P w = .ok v w') : (execOp ρ o).run P w = .ok (.value v) w' := by
  unfold execOp
  simp only [ho, hx, Sem.run_bind, hr, Result.andThen_ok, Sem.run_pure]
theorem below_setRow {B : Nat} {w W : World} (h : Below B w W) (b : Nat) (cs : Array Value) (hb : B ≤ b) (hB : B ≤ W.heap.size) : Below B w (W.setRow b cs) :=
  h.trans ⟨rfl, rfl, rfl, by simp [World.setRow], fun k hk => setRow_other W b k cs (by omega)⟩
theorem MS.row {w W : World} {N N' : Nd} {n1 n2 n3 m1 m2 m3 : Value} (h : MS w W N n1 n2 n3) (ho : NdOwn w.heap.size W N' m1 m2 m3) : MS w (W.setRow w.heap.size #[.bool true, m1, m2, m3, .int .i64 0]) N' m1 m2 m3 :=
  ⟨below_setRow h.below w.heap.size _ (Nat.le_refl _) h.below.size, box_setRow h.box _ _ _ _ _, ho.oth (othRow h.box _)⟩
/-- Behind Del. -/
structure DSt (w W W' : World) (gm : Nat) (D : Nd) (m1 m2 m3 : Value) : Prop where
  below : Below W.heap.size W W'
  box : Box 26 W' gm (.bool true) m1 m2 m3 (.int .i64 0)
  own : NdOwn w.heap.size W' D m1 m2 m3
  gt : w.heap.size < gm
theorem DSt.new {w W U : World} {D : Nd} {m1 m2 m3 z0 z1 z2 z3 z4 : Value} {g : Nat} (hE : Below W.heap.size W U) (hb : Box 26 U g z0 z1 z2 z3 z4) (hg : W.heap.size ≤ g) (ho : NdOwn w.heap.size U D m1 m2 m3) (hw : w.heap.size < W.heap.size) : DSt w W (U.setRow g #[.bool true, m1, m2, m3, .int .i64 0]) g D m1 m2 m3 :=
  ⟨below_setRow hE g _ hg hE.size, box_setRow hb _ _ _ _ _, ho.oth (othRow hb _), by omega⟩
theorem rowKeep {W W' : World} {g n c m : Nat} {xs : List Value} {r : Option Nat} (h : Row W (.slice (some ⟨g, 0, none⟩) n c) m xs) (hg : W.grownBy W' r) (hne : r ≠ some g) (hlt : g < W.heap.size) : Row W' (.slice (some ⟨g, 0, none⟩) n c) m xs := by
  obtain ⟨ao, c', e, h1, h2, h3⟩ := h
  injection e with e1 e2 e3
  subst e1 e2 e3
  refine ⟨_, _, rfl, h1, h2, fun hx => ?_⟩
  obtain ⟨g', o, ea, hr⟩ := h3 hx
  injection ea with ea
  injection ea with ea1 ea2
  subst ea1 ea2
  refine ⟨g, 0, rfl, fun j u hu => ?_⟩
  have := hr j u hu
  have hb := hg.block g hlt (fun e => hne e.symm)
  unfold World.cell? at this ⊢
  rw [hb]
  exact this
end Go.Proofs.Ytjcobejaldfibaa
