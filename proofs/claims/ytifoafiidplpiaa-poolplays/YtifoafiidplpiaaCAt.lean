/- A script that came in; PoolCleans's pool, call by call. -/
import Derived.Test.YtifoafiidplpiaaCPlain
import Derived.ProofKit
import Derived.OpenShut
import Derived.Below
import Derived.Deep.Grids
import Derived.Laws.StructEq
namespace Go.Proofs.Ytifoafiidplpiaa
open Go.ChangeShapes Go.WideShapes Go.ChangeAt Go.RowKit
set_option linter.unusedVariables false
set_option linter.unusedSimpArgs false

/-- The k-th call of a script that came in. -/
structure OpAt (w : World) (b o k : Nat) (kind P A S : Int) : Prop where
  cells : w.rangeAt b (o + k * 4) [.int .i64 kind, .int .i64 P, .int .i64 A, .int .i64 S]
  plo : -9223372036854775808 ≤ P
  phi : P ≤ 9223372036854775807
  slo : -9223372036854775808 ≤ S
  shi : S ≤ 9223372036854775807
def IsOps (w : World) (a : Option Addr) (len : Nat) : Prop :=
  len ≤ 9223372036854775807 ∧ ∀ k, k < len → ∃ b o, a = some ⟨b, o, none⟩ ∧ b < w.heap.size ∧ ∃ kind P A S, OpAt w b o k kind P A S
set_option maxRecDepth 100000 in
theorem ops_of {H : Type} {enc : TypeId × Value → H} {W : World} {held : Bool} {fuel : Nat} {a : Option Addr} {len cap : Nat} {x : DataW H × List MemPlace}
    (h : DataW.trod enc Try.prog W 0 (fun _ => true) held fuel 22 [.slice a len cap] = some x) : IsOps W a len := by
  rcases Deep.open_slice Try.underlying22 h with ⟨hcs, _⟩ | ⟨a', len', cap', m, n, D, Pl, hcs, hb, hl, hm, hmm, _, hx⟩
  · simp at hcs
    obtain ⟨rfl, rfl, rfl⟩ := hcs
    exact ⟨by omega, fun k hk => by omega⟩
  · simp at hcs
    obtain ⟨rfl, rfl, rfl⟩ := hcs
    simp only [if_true] at hmm
    subst hmm
    refine ⟨by simp only [maxLen] at hm; omega, fun k hk => ?_⟩
    have h6 : Try.prog.cellsOf 36 = 4 := by kernel_rfl
    have h3 : Try.prog.cellsOf 3 = 1 := by kernel_rfl
    obtain ⟨cs, hc, ht⟩ := hx k (by omega)
    rw [h6] at hc
    obtain ⟨_, hlen, hcell⟩ := World.cells?_some hc
    obtain ⟨xs, n', _, _, _, hxl, hf⟩ := DataW.trod_struct Try.underlying36 ht
    match cs, hlen with
    | [v0, v1, v2, v3], _ =>
      have g0 := hf 0 _ rfl
      have g1 := hf 1 _ rfl
      have g2 := hf 2 _ rfl
      have g3 := hf 3 _ rfl
      have hs : ∀ i, i < 4 → ∃ y, xs[i]? = some y := fun i hi => ⟨_, List.getElem?_eq_getElem (by rw [hxl]; exact hi)⟩
      obtain ⟨y0, e0⟩ := hs 0 (by omega)
      obtain ⟨y1, e1⟩ := hs 1 (by omega)
      obtain ⟨y2, e2⟩ := hs 2 (by omega)
      obtain ⟨y3, e3⟩ := hs 3 (by omega)
      rw [e0] at g0
      rw [e1] at g1
      rw [e2] at g2
      rw [e3] at g3
      simp [h3] at g0 g1 g2 g3
      obtain ⟨i0, q0, _, w0⟩ := DataW.trod_int Try.underlying3 g0
      obtain ⟨i1, q1, _, w1⟩ := DataW.trod_int Try.underlying3 g1
      obtain ⟨i2, q2, _, w2⟩ := DataW.trod_int Try.underlying3 g2
      obtain ⟨i3, q3, _, w3⟩ := DataW.trod_int Try.underlying3 g3
      have bd1 := bounds_i64 w1
      have bd3 := bounds_i64 w3
      obtain ⟨b, o, sp⟩ := a'
      have hsp : sp = none := by
        obtain ⟨cs0, hc0, _⟩ := hx 0 (by omega)
        rw [h6] at hc0
        obtain ⟨_, hl0, hcl⟩ := World.cells?_some hc0
        have h00 := (hcl 0 (by omega)).trans (List.getElem?_eq_getElem (by omega))
        simpa [Addr.add] using World.cell?_spot h00
      subst hsp
      simp only [List.cons.injEq, and_true] at q0 q1 q2 q3
      subst q0 q1 q2 q3
      refine ⟨b, o, rfl, ?_, i0, i1, i2, i3, ?_, bd1.1, bd1.2, bd3.1, bd3.2⟩
      · have := hcell 0 (by omega)
        rw [Addr.add_mid, Addr.add_mid] at this
        exact World.block_lt_of_cell? W _ this
      · intro j v hv
        have hj : j < 4 := by
          have := (List.getElem?_eq_some_iff.1 hv).1
          simpa using this
        have := hcell j hj
        rw [Addr.add_mid, Addr.add_mid] at this
        exact this.trans hv
theorem OpAt.cell {w W : World} {b o k : Nat} {kind P A S : Int} (h : OpAt w b o k kind P A S) (hb : b < w.heap.size) (hB : Below w.heap.size w W) :
    W.cell? ⟨b, o + k * 4, none⟩ = some (.int .i64 kind) ∧ W.cell? ⟨b, o + k * 4 + 1, none⟩ = some (.int .i64 P) ∧ W.cell? ⟨b, o + k * 4 + 2, none⟩ = some (.int .i64 A) ∧ W.cell? ⟨b, o + k * 4 + 3, none⟩ = some (.int .i64 S) :=
  ⟨(hB.cell (p := ⟨b, o + k * 4, none⟩) hb).trans (h.cells 0 _ rfl), (hB.cell (p := ⟨b, o + k * 4 + 1, none⟩) hb).trans (h.cells 1 _ rfl), (hB.cell (p := ⟨b, o + k * 4 + 2, none⟩) hb).trans (h.cells 2 _ rfl), (hB.cell (p := ⟨b, o + k * 4 + 3, none⟩) hb).trans (h.cells 3 _ rfl)⟩

theorem changed_bs (f : Fm) (bs : List UInt8) (l : Int) : (f.changed bs l).bs = bs := rfl
theorem changed_held (f : Fm) (bs : List UInt8) (l : Int) : (f.changed bs l).held = f.held := rfl
theorem changed_page (f : Fm) (bs : List UInt8) (l : Int) : (f.changed bs l).page = f.page := rfl
theorem changed_dirty (f : Fm) (bs : List UInt8) (l : Int) : (f.changed bs l).dirty = true := rfl
theorem changed_rlsn (f : Fm) (bs : List UInt8) (l : Int) : (f.changed bs l).rlsn = if f.dirty = true then f.rlsn else l := rfl
/-! ### The pool of PoolCleans -/
def PoolC (w0 w : World) (P G q p gF gL : Nat) (F L : List Int) (wr : Nat) : Prop := ∃ S : Pl Φ9.σ, PoolAt Φ9 w0 w P G q p 6 [gF, gL] S ∧ CInv S F L ∧ S.wr = wr
section
variable {w0 w w' : World} {P G q p gF gL : Nat} {F L : List Int} {wr : Nat}
theorem PoolC.belowW (h : PoolC w0 w P G q p gF gL F L wr) (hb : Below w.heap.size w w') : PoolC w0 w' P G q p gF gL F L wr := let ⟨S, a, b⟩ := h; ⟨S, a.belowW hb, b⟩
theorem PoolC.below (h : PoolC w0 w P G q p gF gL F L wr) : Below w0.heap.size w0 w := let ⟨_, a, _⟩ := h; a.below
theorem PoolC.write (h : PoolC w0 w P G q p gF gL F L wr) {g : Nat} (hg : g ∈ [gF, gL]) (hg0 : w0.heap.size ≤ g) (hO : Off [g] w w') : PoolC w0 w' P G q p gF gL F L wr := let ⟨S, a, b⟩ := h; ⟨S, a.write hg hg0 hO, b⟩
theorem PoolC.lens (h : PoolC w0 w P G q p gF gL F L wr) : F.length = 6 ∧ L.length = 6 := let ⟨_, _, b, _⟩ := h; ⟨b.lf, b.ll⟩
theorem PoolC.pos (h : PoolC w0 w P G q p gF gL F L wr) (m : Nat) : 0 ≤ F.getD m 0 := let ⟨_, _, b, _⟩ := h; b.pos m
theorem pc_evict0 (h : PoolC w0 w P G q p gF gL F L wr) (m : Nat) (hm : m < 6) (h0 : F.getD m 0 = 0) (hw : wr ≤ 1000) :
    Calls Try.prog 10 #[.pointer (some ⟨P, 0, none⟩), .int .i64 (m : Int)] w fun e w' => e = .returned (.int .i64 0) ∧ PoolC w0 w' P G q p gF gL F L wr ∧ Kept [gF, gL] w w' := by
  obtain ⟨S, hP, hI, hwr⟩ := h
  have e : S.evict (m : Int) = (0, S) := evict_none (hI.find_none m hm h0)
  have := evict_any hP (m : Int) trivial hI.sound (by omega)
  rw [e] at this
  refine this.mono ?_
  rintro e w' ⟨rfl, h1, h2⟩
  exact ⟨rfl, ⟨S, h1, hI, hwr⟩, h2⟩
theorem pc_evict1 (h : PoolC w0 w P G q p gF gL F L wr) (m : Nat) (hm : m < 6) (h0 : 0 < F.getD m 0) (hw : wr ≤ 1000) :
    Calls Try.prog 10 #[.pointer (some ⟨P, 0, none⟩), .int .i64 (m : Int)] w fun e w' => e = .returned (.int .i64 0) ∧ (∃ S : Pl Φ9.σ, PoolAt Φ9 w0 w' P G q p 6 [gF, gL] S ∧ CInv S (F.set m 0) L ∧ S.wr = wr + 1 ∧ S.disk.getD m [] = pg 9 (L.getD m 0)) ∧ Kept [gF, gL] w w' := by
  obtain ⟨S, hP, hI, hwr⟩ := h
  obtain ⟨i, f, h1, h2, h3, h4, h5, h6, h7, h8, h9⟩ := hI.find_some m hm h0
  have hdl : S.disk.length = 6 := let ⟨_, _, _, _, x⟩ := hP; x.dlen
  have e0 : S.wrote f = (0, { S with fo := S.fo, disk := S.disk.set f.page.toNat f.bs, wr := S.wr + 1 }) := wrote_dirty (Φ := Φ9) (S := S) S.fo h6 rfl
  have e : S.evict (m : Int) = (0, { S with fo := S.fo, disk := S.disk.set m f.bs, wr := S.wr + 1, fs := S.fs.set i Fm.nil }) := by
    rw [evict_some h1 h3 e0, h5]
    rfl
  have := evict_any hP (m : Int) trivial hI.sound (by omega)
  rw [e] at this
  refine this.mono ?_
  rintro e w' ⟨rfl, r1, r2⟩
  refine ⟨rfl, ⟨_, r1, hI.evict m hm h0 i f h2 h4 h5 S.hand (S.wr + 1) (S.disk.set m f.bs) S.fo, by simp [hwr], ?_⟩, r2⟩
  simp only
  rw [List.getD_eq_getElem?_getD, List.getElem?_set_self (by omega)]
  exact h8
theorem pc_read {m : Nat} {bs : List UInt8} (h : ∃ S : Pl Φ9.σ, PoolAt Φ9 w0 w P G q p 6 [gF, gL] S ∧ CInv S F L ∧ S.wr = wr ∧ S.disk.getD m [] = bs) (hm : m < 6) :
    Calls Try.prog 11 #[.pointer (some ⟨q, 0, none⟩), .int .i64 (m : Int)] w fun e w' => ∃ g, e = .returned (.tuple #[.slice (some ⟨g, 0, none⟩) 512 512, .int .i64 0]) ∧ w.heap.size ≤ g ∧ w'.heap[g]? = some (.cells (secCells bs).toArray 5 (0, 0)) ∧
      PoolC w0 w' P G q p gF gL F L wr ∧ Kept [gF, gL] w w' := by
  obtain ⟨S, ⟨bl, ff, vs, D, hP⟩, hI, hwr, hd⟩ := h
  refine (pool_fread hP m hm).mono ?_
  rintro e w' ⟨g, rfl, h1, h2, ⟨D', h3⟩, h4⟩
  rw [hd] at h2
  exact ⟨g, rfl, h1, h2, ⟨S, h3.at.mind (fun k hk => by simp at hk ⊢; exact .inr hk), hI, hwr⟩, h4⟩
theorem pc_put {W : World} (h : PoolC w0 w P G q p gF gL F L wr) (m : Nat) (hm : m < 6) (K : Int) (hK : 0 < K) (hK2 : K ≤ 1000) (hw : wr ≤ 1000) (hb : Below w.heap.size w W) (hg : W.heap[w.heap.size]? = some (.cells (secCells (pg 9 K)).toArray 5 (0, 0))) :
    Calls Try.prog 13 #[.pointer (some ⟨P, 0, none⟩), .int .i64 (m : Int), .slice (some ⟨w.heap.size, 0, none⟩) 512 512, .int .i64 K] W fun e w' => e = .returned (.int .i64 0) ∧ PoolC w0 w' P G q p gF gL (if F.getD m 0 = 0 then F.set m K else F) (L.set m K) wr ∧ Kept [gF, gL] W w' := by
  obtain ⟨S, hP, hI, hwr⟩ := h
  have hP2 := hP.mindNew hb (ys := [w.heap.size, gF, gL]) (fun k hk => by
    simp only [List.mem_cons, List.not_mem_nil, or_false] at hk
    rcases hk with h1 | h1 | h1
    · subst h1; exact .inr ⟨Nat.le_refl _, (Array.getElem?_eq_some_iff.1 hg).1⟩
    · exact .inl (by simp [h1])
    · exact .inl (by simp [h1]))
  have hcon := put_any (c := 512) hP2 (m : Int) w.heap.size (pg 9 K) (length_pg _ _) (by simp) (SrcAt.block hg) K (by omega) (by omega) trivial hI.sound (by omega)
  have hin : ¬ ((m : Int) < 0 ∨ ((6 : Nat) : Int) ≤ (m : Int) ∨ K < 1) := by omega
  by_cases h0 : F.getD m 0 = 0
  · obtain ⟨i, f, e1, e2, e3, e4⟩ := hI.empty m hm h0
    have e : S.put 6 (m : Int) (pg 9 K) K = (0, { S with fs := S.fs.set i ((Fm.fresh (m : Int)).changed (pg 9 K) K) }) := put_none _ _ hin (hI.find_none m hm h0) (free_empty e1 e2 e4)
    rw [e] at hcon
    refine hcon.mono ?_
    rintro e w' ⟨rfl, r1, r2⟩
    refine ⟨rfl, ⟨_, r1.mind (fun k hk => by simp at hk ⊢; exact .inr hk), hI.put m hm K hK i f e2 (.inr ⟨e3, h0⟩) ((Fm.fresh (m : Int)).changed (pg 9 K) K) _ rfl rfl rfl rfl ?_ (changed_bs _ _ _) S.hand S.wr S.disk S.fo, hwr⟩, r2.mono (fun k hk => by simp at hk ⊢; exact .inr hk)⟩
    rw [if_pos h0, getD_set_self _ _ _ (by rw [hI.lf]; exact hm)]
    rfl
  · have h0' : 0 < F.getD m 0 := by have := hI.pos m; omega
    obtain ⟨i, f, h1, h2, h3, h4, h5, h6, h7, h8, h9⟩ := hI.find_some m hm h0'
    have e : S.put 6 (m : Int) (pg 9 K) K = (0, { S with fs := S.fs.set i (f.changed (pg 9 K) K) }) := put_some _ _ hin h1 h3
    rw [e] at hcon
    refine hcon.mono ?_
    rintro e w' ⟨rfl, r1, r2⟩
    refine ⟨rfl, ⟨_, r1.mind (fun k hk => by simp at hk ⊢; exact .inr hk), hI.put m hm K hK i f h2 (.inl ⟨h4, h5⟩) (f.changed (pg 9 K) K) _ rfl ((changed_held _ _ _).trans h4) ((changed_page _ _ _).trans h5) (changed_dirty _ _ _) ?_ (changed_bs _ _ _) S.hand S.wr S.disk S.fo, hwr⟩, r2.mono (fun k hk => by simp at hk ⊢; exact .inr hk)⟩
    rw [if_neg h0, changed_rlsn, if_pos h6, h7]
theorem pc_dirty (h : PoolC w0 w P G q p gF gL F L wr) : Calls Try.prog 14 #[.pointer (some ⟨P, 0, none⟩)] w fun e w' => ∃ v, e = .returned v ∧ DirtAt w' v (expE F 6) ∧ Below w.heap.size w w' := by
  obtain ⟨S, hP, hI, hwr⟩ := h
  refine (pool_dirty hP (by have := dirtL_le S.fs; have := hI.len; omega)).mono ?_
  rintro e w' ⟨v, d, rfl, h1, h2, h3, h4⟩
  rw [hI.dirt d h2 h3] at h1
  exact ⟨v, rfl, h1, h4⟩
theorem pc_writes (h : PoolC w0 w P G q p gF gL F L wr) : Calls Try.prog 15 #[.pointer (some ⟨P, 0, none⟩)] w fun e w' => e = .returned (.int .i64 (wr : Int)) ∧ w' = w := by
  obtain ⟨S, hP, hI, hwr⟩ := h
  have := pool_writes hP
  rw [hwr] at this
  exact this
end
end Go.Proofs.Ytifoafiidplpiaa
