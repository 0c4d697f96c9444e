/- The law FileWhole: what holds on its way, and its calls. -/
import Derived.Test.YtkdlggobbkedmaaFApart
import Derived.Test.YtkdlggobbkedmaaFSafe
namespace Go.Proofs.Ytkdlggobbkedmaa
open Go.RowKit
set_option linter.unusedVariables false
set_option linter.unusedSimpArgs false

def want3 (Z : List Int) (j : Nat) : List UInt8 := if 0 < Z.getD j 0 then pg 3 (Z.getD j 0) else zerosN 512
theorem length_want3 (Z : List Int) (j : Nat) : (want3 Z j).length = 512 := by
  unfold want3
  split
  · exact length_pg _ _
  · exact length_zerosN _
theorem want3_set (Z : List Int) (P j : Nat) (K : Int) (hP : P < Z.length) (hK : 0 < K) : upd (want3 Z) P (pg 3 K) j = want3 (Z.set P K) j := by
  by_cases e : j = P
  · subst e
    rw [upd_same]
    have e2 : (Z.set j K).getD j 0 = K := by simp [hP]
    unfold want3
    rw [e2, if_pos hK]
  · rw [upd_other _ _ _ _ e]
    have e2 : (Z.set P K).getD j 0 = Z.getD j 0 := by
      simp only [List.getD_eq_getElem?_getD]
      rw [List.getElem?_set_ne (fun h => e h.symm)]
    unfold want3
    rw [e2]
/-- A device that lives, its pages as they were written. -/
structure Live (Z : List Int) (D : Dv) : Prop where
  dead : D.dead = false
  W : D.W = []
  L : D.L.length = 40
  good : Good 1 6 D.L (want3 Z)
/-- A device that failed while page P was written. -/
structure Broken (Z : List Int) (P : Nat) (K : Int) (D : Dv) : Prop where
  W : D.W.length ≤ 4
  L : D.L.length = 40
  safe : ∀ ks, Safe 1 6 (D.crashed ks).L (want3 Z) ∨ Safe 1 6 (D.crashed ks).L (upd (want3 Z) P (pg 3 K))
theorem live_write_cases {Z : List Int} {D : Dv} (h : Live Z D) (hZ : Z.length = 6) (P : Nat) (K : Int) (hP : P < 6) (hK : 0 < K) :
    (∃ E, D.carJ 1 P (pg 3 K) = (0, E) ∧ Live (Z.set P K) E) ∨ (∃ E, D.carJ 1 P (pg 3 K) = (50, E) ∧ Broken Z P K E) := by
  rcases carJ_safe h.dead h.W (by rw [h.L]; omega) (by omega) (length_pg 3 K) h.good hP with ⟨E, h1, h2, h3, h4, h5⟩ | ⟨E, h1, h2, h3, h4⟩
  · refine .inl ⟨E, h1, h2, h3, by rw [h4, h.L], h5.head, fun j hj => ?_⟩
    rw [h5.pages j hj, want3_set Z P j K (by omega) hK]
  · exact .inr ⟨E, h1, h3, by rw [h2, h.L], h4⟩
theorem live_fresh : Live [0, 0, 0, 0, 0, 0] ((Dv.fresh 40).more 1) := by
  have hg := fresh_good 40 1 6 (by omega) (by omega)
  refine ⟨by rw [more_dead]; rfl, by rw [more_W]; rfl, by rw [more_L]; simp [Dv.fresh], by rw [more_L]; exact hg.head, fun j hj => ?_⟩
  rw [more_L, hg.pages j hj]
  have : j = 0 ∨ j = 1 ∨ j = 2 ∨ j = 3 ∨ j = 4 ∨ j = 5 := by omega
  rcases this with rfl | rfl | rfl | rfl | rfl | rfl <;> rfl

/-- The state behind some writes. -/
structure WAt (w0 w : World) (q p gi : Nat) (Z : List Int) (wy la : Int) : Prop where
  st : (wy = -1 ∧ ∃ D, Fs w0 w q p 1 6 false [gi] D ∧ Live Z D) ∨ (∃ P : Nat, P < 6 ∧ wy = (P : Int) ∧ ∃ D, DevX w0 w p [gi] D ∧ Broken Z P la D)
  own : Own w gi 60 Z
  gi0 : w0.heap.size ≤ gi
  six : Z.length = 6
theorem WAt.below {w0 w : World} {q p gi : Nat} {Z : List Int} {wy la : Int} (h : WAt w0 w q p gi Z wy la) : Below w0.heap.size w0 w := by
  rcases h.st with ⟨_, D, h1, _⟩ | ⟨P, _, _, D, h1, _⟩
  · exact h1.below
  · exact h1.below
theorem WAt.range {w0 w : World} {q p gi : Nat} {Z : List Int} {wy la : Int} (h : WAt w0 w q p gi Z wy la) : -1 ≤ wy ∧ wy < 6 := by
  rcases h.st with ⟨h1, _⟩ | ⟨P, h1, h2, _⟩
  · omega
  · omega
theorem WAt.live {w0 w : World} {q p gi : Nat} {Z : List Int} {wy la : Int} (h : WAt w0 w q p gi Z wy la) (hw : wy < 0) : ∃ D, Fs w0 w q p 1 6 false [gi] D ∧ Live Z D := by
  rcases h.st with ⟨_, h1⟩ | ⟨P, _, h2, _⟩
  · exact h1
  · omega
/-- A write goes well or not. -/
theorem w_write {w0 w : World} {q p gi : Nat} {Z : List Int} {wy la : Int} (h : WAt w0 w q p gi Z wy la) (hw : wy < 0) (P : Nat) (K : Int) (hP : P < 6) (hK : 0 < K) :
    (∀ W g, Below w.heap.size w W → w.heap.size ≤ g → W.heap[g]? = some (.cells (secCells (pg 3 K)).toArray 5 (0, 0)) →
      Calls Try.prog 9 #[.pointer (some ⟨q, 0, none⟩), .int .i64 (P : Int), .slice (some ⟨g, 0, none⟩) 512 512] W fun e w' => e = .returned (.int .i64 0) ∧ (∃ D, Fs w0 w' q p 1 6 false [gi] D ∧ Live (Z.set P K) D) ∧ Own w' gi 60 Z) ∨
    (∀ W g, Below w.heap.size w W → w.heap.size ≤ g → W.heap[g]? = some (.cells (secCells (pg 3 K)).toArray 5 (0, 0)) →
      Calls Try.prog 9 #[.pointer (some ⟨q, 0, none⟩), .int .i64 (P : Int), .slice (some ⟨g, 0, none⟩) 512 512] W fun e w' => e = .returned (.int .i64 50) ∧ WAt w0 w' q p gi Z (P : Int) K) := by
  obtain ⟨D, h1, h2⟩ := h.live hw
  have main : ∀ W g, Below w.heap.size w W → w.heap.size ≤ g → W.heap[g]? = some (.cells (secCells (pg 3 K)).toArray 5 (0, 0)) →
      Calls Try.prog 9 #[.pointer (some ⟨q, 0, none⟩), .int .i64 (P : Int), .slice (some ⟨g, 0, none⟩) 512 512] W fun e w' => e = .returned (.int .i64 (D.carJ 1 P (pg 3 K)).1) ∧
        Fs w0 w' q p 1 6 ((D.carJ 1 P (pg 3 K)).1 != 0) [gi, g] (D.carJ 1 P (pg 3 K)).2 ∧ Own w' gi 60 Z := by
    intro W g hb hg hs
    have hgl := (Array.getElem?_eq_some_iff.1 hs).1
    have hF := h1.mindNew (ys := [gi, g]) hb (fun k hk => by
      simp at hk
      rcases hk with rfl | rfl
      · exact .inl (by simp)
      · exact .inr ⟨hg, hgl⟩)
    refine (b_write P g 512 (pg 3 K) hF (length_pg _ _) (by omega) (by simp) hs (by rw [h2.W]; simp) (by rw [h2.L]; omega) hP).mono ?_
    rintro e w' ⟨rfl, a1, a2⟩
    exact ⟨rfl, a1, (h.own.belowW hb).kept a2 (by simp)⟩
  have hsub : ∀ g : Nat, ∀ k ∈ [gi], k ∈ [gi, g] ∨ k < w0.heap.size := fun g k hk => .inl (by simp at hk; simp [hk])
  rcases live_write_cases h2 h.six P K hP hK with ⟨E, r1, r2⟩ | ⟨E, r1, r2⟩
  · rw [r1] at main
    refine .inl fun W g hb hg hs => (main W g hb hg hs).mono ?_
    rintro e w' ⟨rfl, a1, a2⟩
    exact ⟨rfl, ⟨E, a1.mind (hsub g), r2⟩, a2⟩
  · rw [r1] at main
    refine .inr fun W g hb hg hs => (main W g hb hg hs).mono ?_
    rintro e w' ⟨rfl, a1, a2⟩
    exact ⟨rfl, .inr ⟨P, hP, rfl, E, (a1.mind (hsub g)).devX, r2⟩, a2, h.gi0, h.six⟩
theorem WAt.set {w0 w : World} {q p gi : Nat} {Z : List Int} {D : Dv} (la : Int) (P : Nat) (K : Int) (h1 : Fs w0 w q p 1 6 false [gi] D) (h2 : Live (Z.set P K) D) (h3 : Own w gi 60 Z) (h4 : w0.heap.size ≤ gi) (h5 : Z.length = 6) : WAt w0 (w.setCell ⟨gi, P, none⟩ (.int .i64 K)) q p gi (Z.set P K) (-1) la :=
  ⟨.inl ⟨rfl, D, h1.write (by simp) h4 ((Off.refl [gi] w).setCell _ _ (.inl (by simp))), h2⟩, h3.set P K, h4, by rw [List.length_set, h5]⟩

/-- What every page will be. -/
def Told3 (Z : List Int) (wy la : Int) (Y : Nat → List UInt8) : Prop := ∀ j, j < 6 → Y j = want3 Z j ∨ ((j : Int) = wy ∧ Y j = pg 3 la)
/-- The state behind the first crash; 'neg': no fuse. -/
structure CAt (w0 w : World) (p gi : Nat) (Z : List Int) (wy la : Int) (neg : Bool) : Prop where
  st : ∃ D Y, DevX w0 w p [gi] D ∧ D.dead = false ∧ D.W = [] ∧ D.L.length = 40 ∧ Safe 1 6 D.L Y ∧ Told3 Z wy la Y ∧ (neg = true → D.fuse < 0)
  own : Own w gi 60 Z
/-- Behind an Open. -/
structure OAt (w0 w : World) (p gi : Nat) (Z : List Int) (wy la : Int) : Prop where
  st : ∃ D Y, DevX w0 w p [gi] D ∧ D.W.length ≤ 4 ∧ D.L.length = 40 ∧ (∀ ks, Safe 1 6 (D.crashed ks).L Y) ∧ Told3 Z wy la Y
  own : Own w gi 60 Z
section
variable {w0 w : World} {q p gi : Nat} {Z : List Int} {wy la : Int} {neg : Bool}
theorem CAt.below (h : CAt w0 w p gi Z wy la neg) : Below w0.heap.size w0 w := by
  obtain ⟨D, Y, h1, _⟩ := h.st
  exact h1.below
theorem OAt.below (h : OAt w0 w p gi Z wy la) : Below w0.heap.size w0 w := by
  obtain ⟨D, Y, h1, _⟩ := h.st
  exact h1.below
theorem w_crash (ko : Option Addr) (len cap : Nat) (ks : List Bool) (h : WAt w0 w q p gi Z wy la) (hk : IsBools w0 ko len cap ks) :
    Calls Try.prog 17 #[.pointer (some ⟨p, 0, none⟩), .slice ko len cap] w fun e w' => e = .returned (.tuple #[]) ∧ CAt w0 w' p gi Z wy la true := by
  rcases h.st with ⟨h0, D, h1, h2⟩ | ⟨P, hP, h0, D, h1, h2⟩
  · have := b_crash ko cap ks h1.devX (by rw [h2.W]; simp) (by rw [hk.1]; exact hk.2.1) (keep_of hk h.below)
    rw [hk.1] at this
    refine this.mono ?_
    rintro e w' ⟨rfl, a1, a2⟩
    refine ⟨rfl, ⟨_, want3 Z, a1, rfl, rfl, by rw [crash_len, h2.L], ?_, fun j _ => .inl rfl, fun _ => by show (-1 : Int) < 0; omega⟩, h.own.kept a2 (by simp)⟩
    rw [crash_none_L h2.W]
    exact .inl h2.good
  · have := b_crash ko cap ks h1 (by have := h2.W; omega) (by rw [hk.1]; exact hk.2.1) (keep_of hk h.below)
    rw [hk.1] at this
    refine this.mono ?_
    rintro e w' ⟨rfl, a1, a2⟩
    rcases h2.safe ks with s | s
    · exact ⟨rfl, ⟨_, want3 Z, a1, rfl, rfl, by rw [crash_len, h2.L], s, fun j _ => .inl rfl, fun _ => by show (-1 : Int) < 0; omega⟩, h.own.kept a2 (by simp)⟩
    · refine ⟨rfl, ⟨_, _, a1, rfl, rfl, by rw [crash_len, h2.L], s, fun j hj => ?_, fun _ => by show (-1 : Int) < 0; omega⟩, h.own.kept a2 (by simp)⟩
      by_cases e : j = P
      · exact .inr ⟨by rw [e, h0], by rw [e, upd_same]⟩
      · exact .inl (upd_other _ _ _ _ e)
theorem c_crash (ko : Option Addr) (len cap : Nat) (ks : List Bool) (h : OAt w0 w p gi Z wy la) (hk : IsBools w0 ko len cap ks) :
    Calls Try.prog 17 #[.pointer (some ⟨p, 0, none⟩), .slice ko len cap] w fun e w' => e = .returned (.tuple #[]) ∧ CAt w0 w' p gi Z wy la true := by
  obtain ⟨D, Y, h1, h2, h3, h4, h5⟩ := h.st
  have := b_crash ko cap ks h1 (by omega) (by rw [hk.1]; exact hk.2.1) (keep_of hk h.below)
  rw [hk.1] at this
  refine this.mono ?_
  rintro e w' ⟨rfl, a1, a2⟩
  exact ⟨rfl, ⟨_, Y, a1, rfl, rfl, by rw [crash_len, h3], h4 ks, h5, fun _ => by show (-1 : Int) < 0; omega⟩, h.own.kept a2 (by simp)⟩
theorem c_fuse (k : Int) (h : CAt w0 w p gi Z wy la neg) (k1 : -9223372036854775808 ≤ k) (k2 : k ≤ 9223372036854775807) :
    Calls Try.prog 19 #[.pointer (some ⟨p, 0, none⟩), .int .i64 k] w fun e w' => e = .returned (.tuple #[]) ∧ CAt w0 w' p gi Z wy la false := by
  obtain ⟨D, Y, h1, h2, h3, h4, h5, h6, h7⟩ := h.st
  refine (b_fuse k h1 k1 k2).mono ?_
  rintro e w' ⟨rfl, a1, a2⟩
  exact ⟨rfl, ⟨_, Y, a1, h2, h3, h4, h5, h6, fun h => by cases h⟩, h.own.kept a2 (by simp)⟩
theorem c_open (h : CAt w0 w p gi Z wy la neg) :
    Calls Try.prog 7 #[.pointer (some ⟨p, 0, none⟩), .int .i64 1, .int .i64 6] w fun e w' => (∃ v, e = .returned v) ∧ OAt w0 w' p gi Z wy la := by
  obtain ⟨D, Y, h1, h2, h3, h4, h5, h6, h7⟩ := h.st
  refine (b_open 1 6 h1 (by omega) (by rw [h3]; simp) (by rw [h4]; omega)).mono ?_
  rintro e w' ⟨q', rfl, a1, a2⟩
  refine ⟨⟨_, rfl⟩, ?_, h.own.kept a2 (by simp)⟩
  rcases mend_safe h1.wf h2 h3 (by rw [h4]; omega) (by omega) h5 with ⟨E, r1, r2, r3, r4, r5⟩ | ⟨E, r1, r2, r3, r4, r5⟩
  · rw [r1] at a1
    exact ⟨E, Y, a1.devX, by rw [r3]; simp, by rw [r4, h4], fun ks => by rw [crash_none_L r3]; exact .inl r5, h6⟩
  · rw [r1] at a1
    exact ⟨E, Y, a1.devX, r3, by rw [r2, h4], r4, h6⟩
/-- A file whose pages are told. -/
structure RAt (w0 w : World) (q p gi : Nat) (Z : List Int) (Y : Nat → List UInt8) : Prop where
  st : ∃ D, Fs w0 w q p 1 6 false [gi] D ∧ D.dead = false ∧ D.W = [] ∧ D.L.length = 40 ∧ Good 1 6 D.L Y
  own : Own w gi 60 Z
theorem RAt.below {Y : Nat → List UInt8} (h : RAt w0 w q p gi Z Y) : Below w0.heap.size w0 w := by
  obtain ⟨D, h1, _⟩ := h.st
  exact h1.below
theorem RAt.belowW {w' : World} {Y : Nat → List UInt8} (h : RAt w0 w q p gi Z Y) (hb : Below w.heap.size w w') : RAt w0 w' q p gi Z Y := by
  obtain ⟨D, h1, h2⟩ := h.st
  exact ⟨⟨D, h1.belowW hb, h2⟩, h.own.belowW hb⟩
theorem c_openLast (h : CAt w0 w p gi Z wy la true) : ∃ Y, Told3 Z wy la Y ∧
    Calls Try.prog 7 #[.pointer (some ⟨p, 0, none⟩), .int .i64 1, .int .i64 6] w fun e w' => ∃ q, e = .returned (.tuple #[.pointer (some ⟨q, 0, none⟩), .int .i64 0]) ∧ RAt w0 w' q p gi Z Y := by
  obtain ⟨D, Y, h1, h2, h3, h4, h5, h6, h7⟩ := h.st
  refine ⟨Y, h6, ?_⟩
  rcases mend_safe h1.wf h2 h3 (by rw [h4]; omega) (by omega) h5 with ⟨E, r1, r2, r3, r4, r5⟩ | ⟨E, r1, r2, r3, r4, r5⟩
  · refine (b_openOk 1 6 h1 (by omega) (by rw [h3]; simp) (by rw [h4]; omega) r1).mono ?_
    rintro e w' ⟨q', rfl, a1, a2⟩
    exact ⟨q', rfl, ⟨E, a1, r2, r3, by rw [r4, h4], r5⟩, h.own.kept a2 (by simp)⟩
  · exact absurd (h7 rfl) r5
theorem r_read {Y : Nat → List UInt8} (h : RAt w0 w q p gi Z Y) (j : Nat) (hj : j < 6) :
    Calls Try.prog 10 #[.pointer (some ⟨q, 0, none⟩), .int .i64 (j : Int)] w fun e w' => ∃ g, e = .returned (.tuple #[.slice (some ⟨g, 0, none⟩) 512 512, .int .i64 0]) ∧
      w'.heap[g]? = some (.cells (secCells (Y j)).toArray 5 (0, 0)) ∧ (Y j).length = 512 ∧ RAt w0 w' q p gi Z Y := by
  obtain ⟨D, h1, h2, h3, h4, h5⟩ := h.st
  have e : D.four (1 + 5 + 4 * j) = Y j := by rw [four_L h3, h5.pages j hj]
  have hl := length_four h1.wf (1 + 5 + 4 * j) (by rw [h4]; omega)
  rw [e] at hl
  refine (b_read j h1 h2 (by rw [h3]; simp) (by rw [h4]; omega) hj).mono ?_
  rw [e]
  rintro e w' ⟨g, rfl, a1, a2, a3, a4⟩
  exact ⟨g, rfl, a2, hl, ⟨_, a3.mind (fun k hk => .inl (by simp at hk; simp [hk])), by rw [more_dead, h2], by rw [more_W, h3], by rw [more_L, h4], by rw [more_L]; exact h5⟩, h.own.kept a4 (by simp)⟩
end
theorem Try.zero60 (w : World) : (zeroValue 60).run Try.prog w = .ok (.agg #[.int .i64 0, .int .i64 0, .int .i64 0, .int .i64 0, .int .i64 0, .int .i64 0]) w := by kernel_rfl
end Go.Proofs.Ytkdlggobbkedmaa
