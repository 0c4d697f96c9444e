/- A script that came in, opened call by call; the state of the law FilePlays. -/
import Derived.Test.YtkdlggobbkedmaaGSame
import Derived.ProofKit
import Derived.OpenShut
import Derived.Below
import Derived.Deep.Grids
namespace Go.Proofs.Ytkdlggobbkedmaa
open Go.ChangeShapes Go.WideShapes Go.ChangeAt Go.RowKit
set_option linter.unusedVariables false
set_option linter.unusedSimpArgs false

/-- The k-th call of a script that came in. -/
structure OpAt (w : World) (b o k : Nat) (kind P A B S : Int) (ka : Option Addr) (kn kc : Nat) (ks : List Bool) : Prop where
  cells : w.rangeAt b (o + k * 6) [.int .i64 kind, .int .i64 P, .int .i64 A, .int .i64 B, .int .i64 S, .slice ka kn kc]
  keep : IsBools w ka kn kc ks
  lo : -9223372036854775808 ≤ A
  hi : A ≤ 9223372036854775807
def IsOps (w : World) (a : Option Addr) (len : Nat) : Prop :=
  len ≤ 9223372036854775807 ∧ ∀ k, k < len → ∃ b o, a = some ⟨b, o, none⟩ ∧ b < w.heap.size ∧ ∃ kind P A B S ka kn kc ks, OpAt w b o k kind P A B S ka kn kc ks
theorem Try.size48 : (Try.prog.info? 48).map (·.size) = some 6 := by kernel_rfl

theorem bools_of1 {H : Type} {enc : TypeId × Value → H} {W : World} {held : Bool} {fuel : Nat} {v : Value} {x : DataW H × List MemPlace}
    (h : DataW.trod enc Try.prog W 0 (fun _ => true) held fuel 46 [v] = some x) : ∃ a len cap zs, v = .slice a len cap ∧ IsBools W a len cap zs := by
  rcases Deep.open_bools Try.underlying46 Try.underlying4 Try.cells4 h with ⟨hcs, _⟩ | ⟨y, l, c, B, hcs, _, hl, hm, _, hcell⟩
  · exact ⟨none, 0, 0, [], by simpa using hcs, rfl, by omega, fun k hk => by omega⟩
  · simp only [maxLen] at hm
    refine ⟨some y, l, c, (List.range l).map B, by simpa using hcs, by simp, by omega, fun k hk => ?_⟩
    have hc := hcell k (by omega)
    obtain ⟨b, o, sp⟩ := y
    have hsp : sp = none := by simpa [Addr.add] using World.cell?_spot (hcell 0 (by omega))
    subst hsp
    rw [Addr.add_mid] at hc
    refine ⟨b, o, rfl, World.block_lt_of_cell? W _ hc, ?_⟩
    rw [hc]
    simp [hk]
theorem ops_of {H : Type} {enc : TypeId × Value → H} {W : World} {held : Bool} {fuel : Nat} {a : Option Addr} {len cap : Nat} {x : DataW H × List MemPlace}
    (h : DataW.trod enc Try.prog W 0 (fun _ => true) held fuel 39 [.slice a len cap] = some x) : IsOps W a len := by
  rcases Deep.open_slice Try.underlying39 h with ⟨hcs, _⟩ | ⟨a', len', cap', m, n, D, Pl, hcs, hb, hl, hm, hmm, _, hx⟩
  · simp at hcs
    obtain ⟨rfl, rfl, rfl⟩ := hcs
    exact ⟨by omega, fun k hk => by omega⟩
  · simp at hcs
    obtain ⟨rfl, rfl, rfl⟩ := hcs
    simp only [if_true] at hmm
    subst hmm
    refine ⟨by simp only [maxLen] at hm; omega, fun k hk => ?_⟩
    have h6 : Try.prog.cellsOf 48 = 6 := by kernel_rfl
    have h3 : Try.prog.cellsOf 3 = 1 := by kernel_rfl
    have h31 : Try.prog.cellsOf 46 = 1 := by kernel_rfl
    obtain ⟨cs, hc, ht⟩ := hx k (by omega)
    rw [h6] at hc
    obtain ⟨_, hlen, hcell⟩ := World.cells?_some hc
    obtain ⟨xs, n', _, _, _, hxl, hf⟩ := DataW.trod_struct Try.underlying48 ht
    match cs, hlen with
    | [v0, v1, v2, v3, v4, v5], _ =>
      have g0 := hf 0 _ rfl
      have g1 := hf 1 _ rfl
      have g2 := hf 2 _ rfl
      have g3 := hf 3 _ rfl
      have g4 := hf 4 _ rfl
      have g5 := hf 5 _ rfl
      have hs : ∀ i, i < 6 → ∃ y, xs[i]? = some y := fun i hi => ⟨_, List.getElem?_eq_getElem (by rw [hxl]; exact hi)⟩
      obtain ⟨y0, e0⟩ := hs 0 (by omega)
      obtain ⟨y1, e1⟩ := hs 1 (by omega)
      obtain ⟨y2, e2⟩ := hs 2 (by omega)
      obtain ⟨y3, e3⟩ := hs 3 (by omega)
      obtain ⟨y4, e4⟩ := hs 4 (by omega)
      obtain ⟨y5, e5⟩ := hs 5 (by omega)
      rw [e0] at g0
      rw [e1] at g1
      rw [e2] at g2
      rw [e3] at g3
      rw [e4] at g4
      rw [e5] at g5
      simp [h3] at g0 g1 g2 g3 g4
      simp [h31] at g5
      obtain ⟨i0, q0, _, w0⟩ := DataW.trod_int Try.underlying3 g0
      obtain ⟨i1, q1, _, w1⟩ := DataW.trod_int Try.underlying3 g1
      obtain ⟨i2, q2, _, w2⟩ := DataW.trod_int Try.underlying3 g2
      obtain ⟨i3, q3, _, w3⟩ := DataW.trod_int Try.underlying3 g3
      obtain ⟨i4, q4, _, w4⟩ := DataW.trod_int Try.underlying3 g4
      obtain ⟨ka, kn, kc, ks, q5, hks⟩ := bools_of1 g5
      have bd := bounds_i64 w2
      obtain ⟨b, o, sp⟩ := a'
      have hsp : sp = none := by
        obtain ⟨cs0, hc0, _⟩ := hx 0 (by omega)
        rw [h6] at hc0
        obtain ⟨_, hl0, hcl⟩ := World.cells?_some hc0
        have h00 := (hcl 0 (by omega)).trans (List.getElem?_eq_getElem (by omega))
        simpa [Addr.add] using World.cell?_spot h00
      subst hsp
      simp only [List.cons.injEq, and_true] at q0 q1 q2 q3 q4
      subst q0 q1 q2 q3 q4 q5
      refine ⟨b, o, rfl, ?_, i0, i1, i2, i3, i4, ka, kn, kc, ks, ?_, hks, bd.1, bd.2⟩
      · have := hcell 0 (by omega)
        rw [Addr.add_mid, Addr.add_mid] at this
        exact World.block_lt_of_cell? W _ this
      · intro j v hv
        have hj : j < 6 := by
          have := (List.getElem?_eq_some_iff.1 hv).1
          simpa using this
        have := hcell j hj
        rw [Addr.add_mid, Addr.add_mid] at this
        exact this.trans hv

/-- Both files stand, and some other blocks. -/
structure Two (w0 w : World) (p r fr n q qm : Nat) (failed : Bool) (xs : List Nat) (D : Dv) : Prop where
  dx : DX w0 w p r (q :: qm :: xs) D D.norm
  fl : FileAt w q p fr n failed
  rf : RFileAt w qm r fr n failed
  ne : q ≠ qm
  nq : q ∉ xs ∧ qm ∉ xs
/-- What holds behind each call. -/
structure PAt (w0 w : World) (p r fr n N B : Nat) (fv mv : Value) : Prop where
  st : ∃ D, D.L.length = N ∧ D.W.length ≤ B ∧ ((fv = .pointer none ∧ mv = .pointer none ∧ DX w0 w p r [] D D.norm) ∨
    ∃ q qm failed, fv = .pointer (some ⟨q, 0, none⟩) ∧ mv = .pointer (some ⟨qm, 0, none⟩) ∧ Two w0 w p r fr n q qm failed [] D)
section
variable {w0 w w' : World} {p r fr n N B q qm : Nat} {failed : Bool} {xs : List Nat} {D : Dv}
theorem Two.belowW (h : Two w0 w p r fr n q qm failed xs D) (hb : Below w.heap.size w w') : Two w0 w' p r fr n q qm failed xs D := ⟨h.dx.belowW hb, h.fl.below hb, h.rf.below hb, h.ne, h.nq⟩
theorem Two.mindNew (h : Two w0 w p r fr n q qm failed xs D) (hb : Below w.heap.size w w') {ys : List Nat} (hy : ∀ k ∈ ys, k ∈ xs ∨ (w.heap.size ≤ k ∧ k < w'.heap.size)) : Two w0 w' p r fr n q qm failed ys D := by
  refine ⟨h.dx.mindNew hb (fun k hk => ?_), h.fl.below hb, h.rf.below hb, h.ne, fun hm => ?_, fun hm => ?_⟩
  · rcases List.mem_cons.1 hk with h1 | h1
    · exact .inl (by simp [h1])
    · rcases List.mem_cons.1 h1 with h2 | h2
      · exact .inl (by simp [h2])
      · rcases hy k h2 with h3 | h3
        · exact .inl (by simp [h3])
        · exact .inr h3
  · rcases hy q hm with h1 | h1
    · exact h.nq.1 h1
    · have := h.fl.lt; omega
  · rcases hy qm hm with h1 | h1
    · exact h.nq.2 h1
    · have := h.rf.lt; omega
theorem Two.mind (h : Two w0 w p r fr n q qm failed xs D) {ys : List Nat} (hy : ∀ k ∈ ys, k ∈ xs) : Two w0 w p r fr n q qm failed ys D := h.mindNew (Below.refl _ _) (fun k hk => .inl (hy k hk))
theorem Two.below (h : Two w0 w p r fr n q qm failed xs D) : Below w0.heap.size w0 w := h.dx.below
/-- A block of the others is written. -/
theorem Two.write {g : Nat} (h : Two w0 w p r fr n q qm failed xs D) (hg : g ∈ xs) (hO : Off [g] w w') : Two w0 w' p r fr n q qm failed xs D :=
  ⟨h.dx.write (by simp [hg]) hO, h.fl.off hO (fun hm => by simp at hm; exact h.nq.1 (hm ▸ hg)), h.rf.off hO (fun hm => by simp at hm; exact h.nq.2 (hm ▸ hg)), h.ne, h.nq⟩
theorem Two.pat (h : Two w0 w p r fr n q qm failed xs D) (hN : D.L.length = N) (hB : D.W.length ≤ B) : PAt w0 w p r fr n N B (.pointer (some ⟨q, 0, none⟩)) (.pointer (some ⟨qm, 0, none⟩)) :=
  ⟨D, hN, hB, .inr ⟨q, qm, failed, rfl, rfl, h.mind (fun k hk => by simp at hk)⟩⟩
theorem PAt.below {fv mv : Value} (h : PAt w0 w p r fr n N B fv mv) : Below w0.heap.size w0 w := by
  obtain ⟨D, _, _, h | ⟨_, _, _, _, _, h⟩⟩ := h.st
  · exact h.2.2.below
  · exact h.below
/-- Two Writes, one behind the other: the first one's end. -/
structure Half (w0 w : World) (p r fr n q qm : Nat) (f1 f2 : Bool) (xs : List Nat) (D R : Dv) : Prop where
  dx : DX w0 w p r (q :: qm :: xs) D R
  fl : FileAt w q p fr n f1
  rf : RFileAt w qm r fr n f2
theorem two_write1 (i : Int) (g c m : Nat) (bs : List UInt8) (h : Two w0 w p r fr n q qm failed xs D) (hg : g ∈ xs) (hs : w.heap[g]? = some (.cells (secCells bs).toArray 5 (0, 0))) (hl : bs.length = m) (hc : m ≤ c) (hW : D.W.length ≤ 700000) (hfr : fr + 5 + 4 * n ≤ D.L.length) :
    Calls Try.prog 9 #[.pointer (some ⟨q, 0, none⟩), .int .i64 i, .slice (some ⟨g, 0, none⟩) m c] w fun e w' => e = .returned (.int .i64 (D.fwrite fr n failed i bs).1) ∧
      Half w0 w' p r fr n q qm (D.fwrite fr n failed i bs).2.1 failed xs (D.fwrite fr n failed i bs).2.2 D.norm ∧ ∀ k ∈ xs, w'.heap[k]? = w.heap[k]? := by
  refine (pl_write i g c m bs h.dx (by simp) (by simp [hg]) h.fl hs hl hc (by omega) hfr).mono ?_
  rintro e w' ⟨rfl, a1, a2, a3⟩
  exact ⟨rfl, ⟨a1, a2, (a3.2 qm (by simp) (by simpa using fun e => h.ne e.symm)).trans h.rf⟩, fun k hk => a3.2 k (by simp [hk]) (fun hm => by simp at hm; exact h.nq.1 (hm ▸ hk))⟩
theorem two_write2 {f1 : Bool} {E : Dv} (i : Int) (bs : List UInt8) (h : Half w0 w p r fr n q qm f1 failed xs E D.norm) (he : f1 = (D.fwrite fr n failed i bs).2.1) (hE : E = (D.fwrite fr n failed i bs).2.2) (hne : q ≠ qm) (hnq : q ∉ xs ∧ qm ∉ xs) (hW : D.W.length ≤ 700000) (hfr : fr + 5 + 4 * n ≤ D.L.length) :
    Calls Try.prog 15 #[.pointer (some ⟨qm, 0, none⟩), .int .i64 i, .string (strOf bs)] w fun e w' => e = .returned (.int .i64 (D.fwrite fr n failed i bs).1) ∧
      Two w0 w' p r fr n q qm (D.fwrite fr n failed i bs).2.1 xs (D.fwrite fr n failed i bs).2.2 ∧ ∀ k ∈ xs, w'.heap[k]? = w.heap[k]? := by
  have hn : D.norm.L.length = D.L.length := rfl
  have := rl_write i bs h.dx (by simp) h.rf (by exact Nat.le_trans hW (by omega)) (by rw [hn]; exact hfr)
  rw [norm_fwrite] at this
  refine this.mono ?_
  rintro e w' ⟨rfl, a1, a2, a3⟩
  refine ⟨rfl, ⟨by rw [← hE]; rw [← hE] at a1; exact a1, (a3.2 q (by simp) (by simpa using hne)).trans (by rw [← he]; exact h.fl), a2, hne, hnq⟩, fun k hk => a3.2 k (by simp [hk]) (fun hm => by simp at hm; exact hnq.2 (hm ▸ hk))⟩
end
end Go.Proofs.Ytkdlggobbkedmaa
