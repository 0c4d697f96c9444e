/- Take, the document's way: what is known as far as the walk has come. -/
import Derived.Test.YtffjdjbjkjefoaaTsm
namespace Go.Proofs.Ytffjdjbjkjefoaa
open Go.RowKit Go.WideAt
set_option linter.unusedVariables false
set_option linter.unusedSimpArgs false

theorem run_append_hold {w : World} {base : Nat} {v : Value} {n : Nat} {xs : List Value} (h : w.ownsRow base 81 3 v n xs) (ty g : Nat) (a b c : Value) (ha : a.oneCell' = true) (hb' : b.oneCell' = true) (hc : c.oneCell' = true) (hg : w.heap[g]? = some (.cells #[a, b, c] 81 (0, 0))) (hn : n < 4000000000000) (hb : base ≤ w.heap.size) :
    ∃ v' w', (Builtin.append_ #[39, 39] ty #[v, .slice (some ⟨g, 0, none⟩) 1 1]).run Try.prog w = .ok v' w' ∧ w'.ownsRow base 81 3 v' (n + 1) (xs ++ [a, b, c]) ∧ w.grownBy w' v.ownBlock ∧ (v'.ownBlock = v.ownBlock ∨ v'.ownBlock = some w.heap.size) := by
  obtain ⟨i, hi, hz⟩ := Option.map_eq_some_iff.1 Try.info81
  simp only [Prod.mk.injEq] at hz
  obtain ⟨hz, hsize, hby⟩ := hz
  have hmax : n + 1 ≤ maxLen := by simp only [maxLen]; omega
  obtain ⟨v', w', h1, h2, h3, h4, h5⟩ := run_append_own_at (P := Try.prog) w base 39 ty 81 i _ 3 32 Try.underlying39 hi hz hsize hby rfl (by omega) v n xs h ⟨g, 0, none⟩ 1 1 [a, b, c] (by simp) (fun j x hx => by
    match j, hx with
    | 0, hx =>
      simp at hx
      subst hx
      rw [Addr.add_mid, cell_row hg]
      rfl
    | 1, hx =>
      simp at hx
      subst hx
      rw [Addr.add_mid, cell_row hg]
      rfl
    | 2, hx =>
      simp at hx
      subst hx
      rw [Addr.add_mid, cell_row hg]
      rfl
    | j + 3, hx => simp at hx) (by intro x hx; simp at hx; rcases hx with rfl | rfl | rfl <;> assumption) hmax (by omega) hb
  exact ⟨v', w', h1, h2, h3, h5⟩
theorem op_build81 (ρ : Operand → Value) (o : Oper) (x y z : Operand) (ho : o.op = .build 81 #[(0, x), (1, y), (2, z)]) (a : Int) (s : ByteArray) (n : Int) (hx : ρ x = .int .i64 a) (hy : ρ y = .string s) (hz : ρ z = .int .i64 n) {w : World} : (execOp ρ o).run Try.prog w = .ok (.value (.agg #[.int .i64 a, .string s, .int .i64 n])) w := by
  unfold execOp
  simp only [ho, hx, hy, hz]
  simp [hx, hy, hz]
  kernel_rfl
/-- The wants are as they were, where nothing else was written. -/
theorem Wl.off {fp : List Nat} {w w' : World} {ao : Option Addr} {L : List Wn} (h : Wl w ao L) (ho : Off fp w w') (hn : ∀ q o, ao = some ⟨q, o, none⟩ → q ∉ fp) : Wl w' ao L := fun i x hx => by
  obtain ⟨g, o, e, h1, h2⟩ := h i x hx
  have hl : g < w.heap.size := World.block_lt_of_cell? w ⟨g, o + i * 2, none⟩ h1
  have hb := ho.block g hl (hn g o e)
  have key : ∀ k, w'.cell? ⟨g, k, none⟩ = w.cell? ⟨g, k, none⟩ := fun k => by simp [World.cell?, hb]
  exact ⟨g, o, e, (key _).trans h1, (key _).trans h2⟩
/-- So many of the wants are laid down: g is the list behind them. -/
def TakeL (id : Int) (L : List Wn) (hs : List Ht) : Nat → List Ht → Prop
  | 0, g => g = hs
  | k + 1, g => ∃ x g0, L[k]? = some x ∧ TakeL id L hs k g0 ∧ ((isMode x.2 = false ∧ g = g0) ∨ (isMode x.2 = true ∧ PutL g0 id x.1 (goalF (modeL g0 id x.1) L x.1) g))
theorem TbOf.takeL {hs : List Ht} {m : Held} {id : Int} {L : List Wn} (h6 : ∀ s, In6 ((m id s).getD 0)) (h : TbOf hs m) : ∀ {k : Nat} {g : List Ht}, TakeL id L hs k g → TbOf g (midH m id L k)
  | 0, g, e => by
    have e : g = hs := e
    rw [e, midH_zero]
    exact h
  | k + 1, g, e => by
    obtain ⟨x, g0, hx, h0, hc⟩ := e
    have ih := TbOf.takeL h6 h h0
    rcases hc with ⟨hmd, rfl⟩ | ⟨hmd, hp⟩
    · exact ih.mid_skip hx hmd
    · exact ih.mid_put h6 hx hmd hp
/-- As far as the walk has come. -/
structure TkAt (w : World) (base rt : Nat) (v : Value) (id : Int) (L : List Wn) (hs : List Ht) (k : Nat) (g : List Ht) (v' : Value) (W : World) : Prop where
  tab : RtAt W base rt v' g
  tk : TakeL id L hs k g
  len : g.length ≤ hs.length + k
  off : Off (rt :: v.ownBlock.toList) w W
  own : ∀ b, v'.ownBlock = some b → v.ownBlock = some b ∨ w.heap.size ≤ b
section
variable {w W : World} {base rt : Nat} {v v' : Value} {id : Int} {L : List Wn} {hs g : List Ht} {k : Nat}
theorem TkAt.start {W : World} (h : RtAt w base rt v hs) (hb : Below w.heap.size w W) : TkAt w base rt v id L hs 0 hs v W :=
  ⟨h.belowW hb, rfl, Nat.le_refl _, Off.of_below hb _, fun b hb => .inl hb⟩
theorem TkAt.belowW {W' : World} (h : TkAt w base rt v id L hs k g v' W) (hb : Below W.heap.size W W') : TkAt w base rt v id L hs k g v' W' :=
  ⟨h.tab.belowW hb, h.tk, h.len, h.off.trans (Off.of_below hb (rt :: v.ownBlock.toList)) (fun i hi => .inl hi), h.own⟩
theorem TkAt.skip {x : Wn} (h : TkAt w base rt v id L hs k g v' W) (hx : L[k]? = some x) (hmd : isMode x.2 = false) : TkAt w base rt v id L hs (k + 1) g v' W :=
  ⟨h.tab, ⟨x, g, hx, h.tk, .inl ⟨hmd, rfl⟩⟩, by have := h.len; omega, h.off, h.own⟩
theorem TkAt.wants {al : Option Addr} (h : TkAt w base rt v id L hs k g v' W) (hL : Wl w al L) (hn : ∀ q o, al = some ⟨q, o, none⟩ → q ≠ rt ∧ v.ownBlock ≠ some q) : Wl W al L :=
  hL.off h.off fun q o e hm => by
    obtain ⟨h1, h2⟩ := hn q o e
    rcases List.mem_cons.1 hm with e | e
    · exact h1 e
    · exact h2 (by simpa using e)
theorem TkAt.fp (h : TkAt w base rt v id L hs k g v' W) (b : Nat) (hb : v'.ownBlock = some b) : b ∈ rt :: v.ownBlock.toList ∨ w.heap.size ≤ b := by
  rcases h.own b hb with e | e
  · exact .inl (by simp [e])
  · exact .inr e
/-- One more, at the end of the list. -/
theorem TkAt.app {x : Wn} {W4 W5 : World} {vn : Value} (h : TkAt w base rt v id L hs k g v' W) (hb4 : Below W.heap.size W W4) (hx : L[k]? = some x) (hmd : isMode x.2 = true) (hno : ∀ z ∈ g, ¬ (z.1 = id ∧ z.2.1 = x.1))
    (r2 : W5.ownsRow base 81 3 vn (g.length + 1) (flatH g ++ [.int .i64 id, scell x.1, .int .i64 (goalF (modeL g id x.1) L x.1)])) (r3 : W4.grownBy W5 v'.ownBlock) (r4 : vn.ownBlock = v'.ownBlock ∨ vn.ownBlock = some W4.heap.size) :
    TkAt w base rt v id L hs (k + 1) (g ++ [(id, x.1, goalF (modeL g id x.1) L x.1)]) vn (W5.setCell ⟨rt, 0, none⟩ vn) := by
  have h4 := h.belowW hb4
  have hne : v'.ownBlock ≠ some rt := owns_ne h4.tab.own h4.tab.cell (by decide)
  have hlt : rt < W4.heap.size := lt_of_heap h4.tab.cell
  have h5 : W5.heap[rt]? = some (.cells #[v'] 41 (0, 0)) := (r3.block rt hlt (fun e => hne e.symm)).trans h4.tab.cell
  have hvn : vn.ownBlock ≠ some rt := by
    rcases r4 with e | e
    · rw [e]; exact hne
    · rw [e]; intro e2; injection e2 with e2; omega
  have ho : Off [rt] W5 (W5.setCell ⟨rt, 0, none⟩ vn) := (Off.refl [rt] W5).setCell _ _ (.inl (by simp))
  refine ⟨⟨heap_set_same _ h5, h.tab.low, ?_⟩, ⟨x, g, hx, h.tk, .inr ⟨hmd, .inl ⟨hno, rfl⟩⟩⟩, by have := h.len; simp; omega, ?_, fun b hb => ?_⟩
  · rw [flatH_snoc, List.length_append]
    exact owns_off r2 ho (fun k hk e => by rw [List.mem_singleton] at hk; subst hk; exact hvn e)
  · exact (h4.off.grown r3 (fun b hb => h.fp b hb)).setCell _ _ (.inl (by simp))
  · rcases r4 with e | e
    · exact h.own b (e ▸ hb)
    · rw [e] at hb
      injection hb with hb
      exact .inr (by have := h4.off.size; omega)
/-- One that is there. -/
theorem TkAt.set {x : Wn} {z : Ht} {r n c q : Nat} (h : TkAt w base rt v id L hs k g (.slice (some ⟨q, 0, none⟩) n c) W) (hn : g.length = n) (hx : L[k]? = some x) (hmd : isMode x.2 = true) (hz : g[r]? = some z) (hm : z.1 = id ∧ z.2.1 = x.1) :
    TkAt w base rt v id L hs (k + 1) (g.set r (id, x.1, goalF (modeL g id x.1) L x.1)) (.slice (some ⟨q, 0, none⟩) n c) (W.setCell ⟨q, r * 3 + 2, none⟩ (.int .i64 (goalF (modeL g id x.1) L x.1))) := by
  have hr : r < n := by rw [← hn]; exact (List.getElem?_eq_some_iff.1 hz).1
  obtain ⟨_, p2, p3⟩ := own_mode (by rw [← hn]; have := h.tab.own; rw [hn] at this ⊢; exact this) hz hr (goalF (modeL g id x.1) L x.1)
  have hne : (Value.slice (some ⟨q, 0, none⟩) n c).ownBlock ≠ some rt := owns_ne h.tab.own h.tab.cell (by decide)
  have hlt : rt < W.heap.size := lt_of_heap h.tab.cell
  rw [hm.1, hm.2] at p2
  refine ⟨⟨(p3.block rt hlt (fun e => hne (by rw [e]; rfl))).trans h.tab.cell, h.tab.low, ?_⟩, ⟨x, g, hx, h.tk, .inr ⟨hmd, .inr ⟨r, z, hz, hm, rfl⟩⟩⟩, by have := h.len; simp; omega, ?_, h.own⟩
  · rw [List.length_set, hn]
    exact p2
  · exact h.off.grown p3 (fun b hb => h.fp b (by rw [← hb]; rfl))
end
/-- The pair, looked for as far as j. -/
def FoundL (g : List Ht) (id : Int) (t : List UInt8) (j : Nat) (p : Value) : Prop :=
  (p = .int .i64 (-1) ∧ ∀ z ∈ g.take j, ¬ (z.1 = id ∧ z.2.1 = t)) ∨ ∃ (r : Nat) (z : Ht), p = .int .i64 (r : Int) ∧ g[r]? = some z ∧ (z.1 = id ∧ z.2.1 = t)
theorem FoundL.zero (g : List Ht) (id : Int) (t : List UInt8) : FoundL g id t 0 (.int .i64 (-1)) := .inl ⟨rfl, by simp⟩
theorem FoundL.miss {g : List Ht} {id : Int} {t : List UInt8} {j : Nat} {p : Value} {z : Ht} (h : FoundL g id t j p) (hz : g[j]? = some z) (hn : ¬ (z.1 = id ∧ z.2.1 = t)) : FoundL g id t (j + 1) p := by
  rcases h with ⟨rfl, h⟩ | h
  · refine .inl ⟨rfl, fun y hy => ?_⟩
    rw [take_snoc hz, List.mem_append, List.mem_singleton] at hy
    rcases hy with hy | rfl
    · exact h y hy
    · exact hn
  · exact .inr h
theorem FoundL.hit {g : List Ht} {id : Int} {t : List UInt8} {j j' : Nat} {z : Ht} (hz : g[j]? = some z) (hn : z.1 = id ∧ z.2.1 = t) : FoundL g id t j' (.int .i64 (j : Int)) := .inr ⟨j, z, rfl, hz, hn⟩
end Go.Proofs.Ytffjdjbjkjefoaa
