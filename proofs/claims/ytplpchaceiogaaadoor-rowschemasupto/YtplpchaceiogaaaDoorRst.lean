/- Where the document's table that is being read stands. -/
import Derived.Test.YtplpchaceiogaaaDoorRtk
import Derived.Test.YtplpchaceiogaaaDoorTbl
namespace Go.Proofs.YtplpchaceiogaaaDoor
open Go.RowKit
set_option linter.unusedVariables false
set_option linter.unusedSimpArgs false
set_option maxRecDepth 100000

theorem Rx.grow {w w' : World} {base e sz m : Nat} {u : Value} {ys : List Value} {fb : Nat} {l : Bool × List Vl} (h : Rx w fb l) (hu : w.ownsRow base e sz u m ys) (hg : w.grownBy w' u.ownBlock) (ht : (32 : Nat) ≠ e) (ht2 : (88 : Nat) ≠ e) : Rx w' fb l := by
  obtain ⟨ao, c, h1, h2⟩ := h
  exact ⟨ao, c, grown_rec hu hg h1 ht2, h2.grow hu hg ht⟩
theorem Rx.setOther {w : World} {fb : Nat} {l : Bool × List Vl} (h : Rx w fb l) {d : Nat} {C : Array Value} {t : TypeId} {fr : Nat × Nat} (hd : w.heap[d]? = some (.cells C t fr)) (ht : t ≠ 32) (hf : fb ≠ d) (o : Nat) (v : Value) : Rx (w.setCell ⟨d, o, none⟩ v) fb l :=
  h.off (fp := [d]) ((Off.refl [d] w).setCell _ _ (.inl (by simp))) (fun k hk cur fr hh => by
    simp at hk
    subst hk
    rw [hd] at hh
    simp at hh
    exact ht hh.2.1) (by simpa using hf)
/-- The table so far, the reader, and what is told of a schema that is none. -/
structure RsAt (w0 w : World) (rb tb fb : Nat) (nm : List UInt8) (vc : Value) (cs : List Cl) (vi : Value) (is : List Ix) (hd : Int) (vr : Value) (rs : List Int) (l : Bool × List Vl) : Prop where
  below : Below w0.heap.size w0 w
  res : w.heap[rb]? = some (.cells #[.string { data := #[] }, .slice none 0 0, .slice none 0 0, .int .i64 0, .slice none 0 0] 29 (0, 0))
  box : w.heap[tb]? = some (.cells #[.string (strOf nm), vc, vi, .int .i64 hd, vr] 29 (0, 0))
  oc : w.ownsRow w0.heap.size 24 4 vc cs.length (clsCells cs)
  oi : w.ownsRow w0.heap.size 85 3 vi is.length (ixsCells is)
  orr : w.ownsRow w0.heap.size 3 1 vr rs.length (intCells rs)
  rd : Rx w fb l
  lr : w0.heap.size ≤ rb
  lt : w0.heap.size ≤ tb
  lf : w0.heap.size ≤ fb
  ne1 : rb ≠ tb
theorem RsAt.fbox {w0 w : World} {rb tb fb : Nat} {nm : List UInt8} {vc : Value} {cs : List Cl} {vi : Value} {is : List Ix} {hd : Int} {vr : Value} {rs : List Int} {l : Bool × List Vl} (h : RsAt w0 w rb tb fb nm vc cs vi is hd vr rs l) : ∃ x y, w.heap[fb]? = some (.cells #[x, y] 88 (0, 0)) := let ⟨ao, c, h1, _⟩ := h.rd; ⟨_, _, h1⟩
theorem RsAt.sep {w0 w : World} {rb tb fb : Nat} {nm : List UInt8} {vc : Value} {cs : List Cl} {vi : Value} {is : List Ix} {hd : Int} {vr : Value} {rs : List Int} {l : Bool × List Vl} (h : RsAt w0 w rb tb fb nm vc cs vi is hd vr rs l) : fb ≠ rb ∧ fb ≠ tb := by
  obtain ⟨x, y, hx⟩ := h.fbox
  constructor
  · intro e; subst e; have := h.res; rw [hx] at this; simp at this
  · intro e; subst e; have := h.box; rw [hx] at this; simp at this
/-- The reader went on; nothing else that was there has changed. -/
theorem RsAt.read {w0 w w' : World} {rb tb fb : Nat} {nm : List UInt8} {vc : Value} {cs : List Cl} {vi : Value} {is : List Ix} {hd : Int} {vr : Value} {rs : List Int} {l l' : Bool × List Vl} (h : RsAt w0 w rb tb fb nm vc cs vi is hd vr rs l) (ho : Off [fb] w w') (hr : Rx w' fb l') : RsAt w0 w' rb tb fb nm vc cs vi is hd vr rs l' := by
  obtain ⟨x, y, hx⟩ := h.fbox
  obtain ⟨s1, s2⟩ := h.sep
  exact ⟨h.below.trans (ho.below h.below.size (by simpa using h.lf)), (ho.block rb (lt_of_heap h.res) (by simpa using s1.symm)).trans h.res, (ho.block tb (lt_of_heap h.box) (by simpa using s2.symm)).trans h.box,
    owns_off h.oc ho (fun k hk => by simp at hk; subst hk; exact owns_ne h.oc hx (by decide)), owns_off h.oi ho (fun k hk => by simp at hk; subst hk; exact owns_ne h.oi hx (by decide)), owns_off h.orr ho (fun k hk => by simp at hk; subst hk; exact owns_ne h.orr hx (by decide)), hr, h.lr, h.lt, h.lf, h.ne1⟩
theorem RsAt.alloc {w0 w : World} {rb tb fb : Nat} {nm : List UInt8} {vc : Value} {cs : List Cl} {vi : Value} {is : List Ix} {hd : Int} {vr : Value} {rs : List Int} {l : Bool × List Vl} (h : RsAt w0 w rb tb fb nm vc cs vi is hd vr rs l) (o : Obj) : RsAt w0 (w.alloc o) rb tb fb nm vc cs vi is hd vr rs l :=
  h.read ((Off.refl [fb] w).alloc o) (h.rd.off (fp := []) ((Off.refl [] w).alloc o) (fun k hk => by cases hk) (by simp))
theorem RsAt.growC {w0 w w' : World} {rb tb fb : Nat} {nm : List UInt8} {vc : Value} {cs : List Cl} {vi : Value} {is : List Ix} {hd : Int} {vr : Value} {rs : List Int} {l : Bool × List Vl} {v' : Value} (x : Cl) (h : RsAt w0 w rb tb fb nm vc cs vi is hd vr rs l)
    (ho : w'.ownsRow w0.heap.size 24 4 v' (cs.length + 1) (clsCells cs ++ clCells x)) (hg : w.grownBy w' vc.ownBlock) :
    RsAt w0 (w'.setCell ⟨tb, 1, none⟩ v') rb tb fb nm v' (cs ++ [x]) vi is hd vr rs l := by
  obtain ⟨s1, s2⟩ := h.sep
  have hb := grown_rec h.oc hg h.box (by decide)
  have hset : ∀ {e' sz' n : Nat} {v : Value} {xs : List Value}, e' ≠ 29 → w'.ownsRow w0.heap.size e' sz' v n xs → (w'.setCell ⟨tb, 1, none⟩ v').ownsRow w0.heap.size e' sz' v n xs := fun he hv =>
    owns_off (fp := [tb]) hv ((Off.refl [tb] w').setCell _ _ (.inl (by simp))) (fun k hk => by simp at hk; subst hk; exact owns_ne hv hb (Ne.symm he))
  refine ⟨?_, ?_, ?_, ?_, ?_, ?_, ?_, h.lr, h.lt, h.lf, h.ne1⟩
  · exact Below.setCell' (grown_below h.below h.oc hg) _ _ h.lt
  · exact (Below.heap_setCell _ _ _ _ h.ne1).trans (grown_rec h.oc hg h.res (by decide))
  · have := heap_set_same v' hb (o := 1)
    simpa using this
  · exact hset (by decide) (by simpa [clsCells, clCells] using ho)
  · exact hset (by decide) (owns_grow h.oi h.oc hg (by decide))
  · exact hset (by decide) (owns_grow h.orr h.oc hg (by decide))
  · exact (h.rd.grow h.oc hg (by decide) (by decide)).setOther hb (by decide) s2 _ _
theorem RsAt.growI {w0 w w' : World} {rb tb fb : Nat} {nm : List UInt8} {vc : Value} {cs : List Cl} {vi : Value} {is : List Ix} {hd : Int} {vr : Value} {rs : List Int} {l : Bool × List Vl} {v' : Value} (x : Ix) (h : RsAt w0 w rb tb fb nm vc cs vi is hd vr rs l)
    (ho : w'.ownsRow w0.heap.size 85 3 v' (is.length + 1) (ixsCells is ++ ixCells x)) (hg : w.grownBy w' vi.ownBlock) :
    RsAt w0 (w'.setCell ⟨tb, 2, none⟩ v') rb tb fb nm vc cs v' (is ++ [x]) hd vr rs l := by
  obtain ⟨s1, s2⟩ := h.sep
  have hb := grown_rec h.oi hg h.box (by decide)
  have hset : ∀ {e' sz' n : Nat} {v : Value} {xs : List Value}, e' ≠ 29 → w'.ownsRow w0.heap.size e' sz' v n xs → (w'.setCell ⟨tb, 2, none⟩ v').ownsRow w0.heap.size e' sz' v n xs := fun he hv =>
    owns_off (fp := [tb]) hv ((Off.refl [tb] w').setCell _ _ (.inl (by simp))) (fun k hk => by simp at hk; subst hk; exact owns_ne hv hb (Ne.symm he))
  refine ⟨?_, ?_, ?_, ?_, ?_, ?_, ?_, h.lr, h.lt, h.lf, h.ne1⟩
  · exact Below.setCell' (grown_below h.below h.oi hg) _ _ h.lt
  · exact (Below.heap_setCell _ _ _ _ h.ne1).trans (grown_rec h.oi hg h.res (by decide))
  · have := heap_set_same v' hb (o := 2)
    simpa using this
  · exact hset (by decide) (owns_grow h.oc h.oi hg (by decide))
  · exact hset (by decide) (by simpa [ixsCells, ixCells] using ho)
  · exact hset (by decide) (owns_grow h.orr h.oi hg (by decide))
  · exact (h.rd.grow h.oi hg (by decide) (by decide)).setOther hb (by decide) s2 _ _
theorem RsAt.growR {w0 w w' : World} {rb tb fb : Nat} {nm : List UInt8} {vc : Value} {cs : List Cl} {vi : Value} {is : List Ix} {hd : Int} {vr : Value} {rs : List Int} {l : Bool × List Vl} {v' : Value} (x : Int) (h : RsAt w0 w rb tb fb nm vc cs vi is hd vr rs l)
    (ho : w'.ownsRow w0.heap.size 3 1 v' (rs.length + 1) (intCells rs ++ [icell x])) (hg : w.grownBy w' vr.ownBlock) :
    RsAt w0 (w'.setCell ⟨tb, 4, none⟩ v') rb tb fb nm vc cs vi is hd v' (rs ++ [x]) l := by
  obtain ⟨s1, s2⟩ := h.sep
  have hb := grown_rec h.orr hg h.box (by decide)
  have hset : ∀ {e' sz' n : Nat} {v : Value} {xs : List Value}, e' ≠ 29 → w'.ownsRow w0.heap.size e' sz' v n xs → (w'.setCell ⟨tb, 4, none⟩ v').ownsRow w0.heap.size e' sz' v n xs := fun he hv =>
    owns_off (fp := [tb]) hv ((Off.refl [tb] w').setCell _ _ (.inl (by simp))) (fun k hk => by simp at hk; subst hk; exact owns_ne hv hb (Ne.symm he))
  refine ⟨?_, ?_, ?_, ?_, ?_, ?_, ?_, h.lr, h.lt, h.lf, h.ne1⟩
  · exact Below.setCell' (grown_below h.below h.orr hg) _ _ h.lt
  · exact (Below.heap_setCell _ _ _ _ h.ne1).trans (grown_rec h.orr hg h.res (by decide))
  · have := heap_set_same v' hb (o := 4)
    simpa using this
  · exact hset (by decide) (owns_grow h.oc h.orr hg (by decide))
  · exact hset (by decide) (owns_grow h.oi h.orr hg (by decide))
  · exact hset (by decide) (by simpa [intCells, icell] using ho)
  · exact (h.rd.grow h.orr hg (by decide) (by decide)).setOther hb (by decide) s2 _ _
/-- The head is set. -/
theorem RsAt.head {w0 w : World} {rb tb fb : Nat} {nm : List UInt8} {vc : Value} {cs : List Cl} {vi : Value} {is : List Ix} {hd : Int} {vr : Value} {rs : List Int} {l : Bool × List Vl} (h : RsAt w0 w rb tb fb nm vc cs vi is hd vr rs l) (x : Int) :
    RsAt w0 (w.setCell ⟨tb, 3, none⟩ (.int .i64 x)) rb tb fb nm vc cs vi is x vr rs l := by
  obtain ⟨s1, s2⟩ := h.sep
  have hset : ∀ {e' sz' n : Nat} {v : Value} {xs : List Value}, e' ≠ 29 → w.ownsRow w0.heap.size e' sz' v n xs → (w.setCell ⟨tb, 3, none⟩ (.int .i64 x)).ownsRow w0.heap.size e' sz' v n xs := fun he hv =>
    owns_off (fp := [tb]) hv ((Off.refl [tb] w).setCell _ _ (.inl (by simp))) (fun k hk => by simp at hk; subst hk; exact owns_ne hv h.box (Ne.symm he))
  refine ⟨?_, ?_, ?_, ?_, ?_, ?_, ?_, h.lr, h.lt, h.lf, h.ne1⟩
  · exact Below.setCell' h.below _ _ h.lt
  · exact (Below.heap_setCell _ _ _ _ h.ne1).trans h.res
  · have := heap_set_same (.int .i64 x) h.box (o := 3)
    simpa using this
  · exact hset (by decide) h.oc
  · exact hset (by decide) h.oi
  · exact hset (by decide) h.orr
  · exact h.rd.setOther h.box (by decide) s2 _ _
end Go.Proofs.YtplpchaceiogaaaDoor
