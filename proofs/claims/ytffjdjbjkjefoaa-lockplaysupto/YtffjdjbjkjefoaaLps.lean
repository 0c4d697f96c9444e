/- LockPlays: both tables side by side. -/
import Derived.Test.YtffjdjbjkjefoaaTkw
import Derived.Test.YtffjdjbjkjefoaaRhw
import Derived.Test.YtffjdjbjkjefoaaSfs
namespace Go.Proofs.Ytffjdjbjkjefoaa
open Go.RowKit Go.WideAt
set_option linter.unusedVariables false
set_option linter.unusedSimpArgs false

/-- The document's table lies apart from the program's. -/
structure Sep (B : Tb) (rt : Nat) (v : Value) : Prop where
  t : B.t ≠ rt
  rt : ¬ B.own rt
  tv : v.ownBlock ≠ some B.t
  row : ∀ k, v.ownBlock = some k → ¬ B.own k
section
variable {w W W' : World} {base t rt : Nat} {B B' : Tb} {m m' : Held} {N N' : Nat} {v v' : Value} {hs g : List Ht} {id : Int} {L : List Wn}
/-- The program's calls leave the document's table alone. -/
theorem moves_doc (h : RtAt W base rt v hs) (hS : Sep B rt v) (hM : Moves B B' W W') : RtAt W' base rt v hs ∧ Sep B' rt v :=
  ⟨⟨(hM.block rt (lt_of_heap h.cell) hS.rt).trans h.cell, h.low, owns_stay h.own fun k hk => hM.block k (h.own.lt k hk).2 (hS.row k hk)⟩,
   ⟨by rw [hM.t]; exact hS.t, fun hb => by
      rcases hM.own rt hb with e | e
      · exact hS.rt e
      · have := lt_of_heap h.cell; omega, by rw [hM.t]; exact hS.tv, fun k hk hb => by
      rcases hM.own k hb with e | e
      · exact hS.row k hk e
      · have := (h.own.lt k hk).2; omega⟩⟩
/-- The document's calls leave the program's alone. -/
theorem off_prog (h : At w t W B m N) (hr : RtAt W w.heap.size rt v hs) (hS : Sep B rt v) (ho : Off (rt :: v.ownBlock.toList) W W') (hv : ∀ b, v'.ownBlock = some b → v.ownBlock = some b ∨ W.heap.size ≤ b) : At w t W' B m N ∧ Sep B rt v' :=
  ⟨⟨h.tab.stay fun k hk => ho.block k (h.tab.lt hk) (fun hm => by
      rcases List.mem_cons.1 hm with e | e
      · subst e
        rcases hk with e | e
        · exact hS.t e.symm
        · exact hS.rt e
      · have e : v.ownBlock = some k := by simpa using e
        rcases hk with e2 | e2
        · exact hS.tv (by rw [e, e2])
        · exact hS.row k e e2), h.below.trans (ho.below h.below.size (fun k hm => by
      rcases List.mem_cons.1 hm with e | e
      · subst e; exact hr.low
      · exact (hr.own.lt k (by simpa using e)).1)), h.t⟩,
   ⟨hS.t, hS.rt, fun e => by
      rcases hv _ e with e2 | e2
      · exact hS.tv e2
      · have := h.tab.lt (.inl rfl); omega, fun k hk hb => by
      rcases hv k hk with e2 | e2
      · exact hS.row k e2 hb
      · have := h.tab.lt (.inr hb); omega⟩⟩
theorem modes6 (h : TabIs W base B m N) (id : Int) (s : List UInt8) : In6 ((m id s).getD 0) := by
  cases hm : m id s with
  | none => exact six0
  | some p => exact mode_in6 (h.good id s p hm).1
/-- Who keeps one from the wants: both say the same. -/
theorem asked {A A' : List Int} (hT : TabIs W base B m N) (ht : TbOf hs m) (h : Against m (grownF (m id) L) id A) (h' : RaIs (badB hs L id) hs A') : A' = A :=
  h.one (RaIs.against ht (fun x s p e => (hT.good x s p e).1) h')
/-- Behind a Take that went well. -/
theorem taken {W0 : World} (hT : TabIs W0 base B m N) (ht : TbOf hs m) (h : TkAt w base rt v id L hs L.length g v' W) : TbOf g (heldN m id (grownF (m id) L)) := by
  have := ht.takeL (modes6 hT id) h.tk
  rwa [midH_end (modes6 hT id)] at this
/-- Behind one that did not. -/
theorem untaken (ht : TbOf hs m) (h : TkAt w base rt v id L hs 0 g v' W) : TbOf g m := by
  have e : g = hs := h.tk
  rw [e]
  exact ht
end
end Go.Proofs.Ytffjdjbjkjefoaa
