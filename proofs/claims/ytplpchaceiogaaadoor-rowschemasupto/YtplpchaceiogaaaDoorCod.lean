/- A row's bytes, and the document's. -/
import Derived.Test.YtplpchaceiogaaaDoorRefE
import Derived.Test.YtplpchaceiogaaaDoorCon
namespace Go.Proofs.YtplpchaceiogaaaDoor
open Go.RowKit
set_option linter.unusedVariables false
set_option linter.unusedSimpArgs false
set_option maxRecDepth 100000

/-- What Encode tells. -/
def CodEnd (w : World) (l : List Vl) (e : Ending) (w' : World) : Prop :=
  if (joinL l).length ≤ 480 then ∃ u, e = .returned (.tuple #[u, .int .i64 0]) ∧ Bts w w' u (joinL l) else e = .returned (.tuple #[.slice none 0 0, .int .i64 170]) ∧ Below w.heap.size w w'
theorem CodEnd.below {w : World} {l : List Vl} {e : Ending} {w' : World} (h : CodEnd w l e w') : Below w.heap.size w w' := by
  unfold CodEnd at h
  split at h
  · obtain ⟨u, _, hB⟩ := h; exact hB.below
  · exact h.2
def codE (l : List Vl) : Int := if (joinL l).length ≤ 480 then 0 else 170
theorem CodEnd.err {w : World} {l : List Vl} {e : Ending} {w' : World} (h : CodEnd w l e w') : ∃ u, e = .returned (.tuple #[u, .int .i64 (codE l)]) := by
  unfold CodEnd at h
  unfold codE
  by_cases hx : (joinL l).length ≤ 480 <;> simp only [hx, if_true, if_false] at h ⊢
  · obtain ⟨u, rfl, hB⟩ := h; exact ⟨u, rfl⟩
  · exact ⟨_, h.1⟩
set_option maxHeartbeats 1000000 in
theorem cod13 {w : World} {v : Value} {l : List Vl} (h : VsAt w v l) (hw : ∀ V ∈ l, V.wf) (hl : bulk l ≤ 400000000) :
    Calls Tryd.prog 13 #[v] w (CodEnd w l) := by
  have HJ := hide (join_any h hw hl)
  clear h hw hl
  unfold CodEnd
  generalize joinL l = X at *
  by_cases hx : X.length ≤ 480
  · simp only [if_pos hx]
    go_enter Tryd.func13, Tryd.ntmps13
    go_wp2_with fail
    refine HJ.out.mono ?_
    rintro e W2 ⟨u, rfl, hB⟩
    obtain ⟨ao, c, e1, c1, c2⟩ := hB.sl.len
    subst e1
    have HB := hide hB
    clear hB HJ
    generalize hn : X.length = n at *
    have HN := hide hn
    clear hn
    have hxi : ¬ (480 : Int) < (n : Int) := by omega
    go_wp2
    refine bodyPost_ret (results_tmp2 rfl _ _ _) rfl ?_
    exact ⟨_, rfl, HB.out⟩
  · simp only [if_neg hx]
    go_enter Tryd.func13, Tryd.ntmps13
    go_wp2_with fail
    refine HJ.out.mono ?_
    rintro e W2 ⟨u, rfl, hB⟩
    obtain ⟨ao, c, e1, c1, c2⟩ := hB.sl.len
    subst e1
    have HB := hide hB.below
    clear hB HJ
    generalize hn : X.length = n at *
    have HN := hide hn
    clear hn
    have hxi : (480 : Int) < (n : Int) := by omega
    go_wp2
    refine bodyPost_ret (results_tmp2 rfl _ _ _) rfl ?_
    exact ⟨rfl, HB.out⟩
set_option maxHeartbeats 1000000 in
theorem cod14 {w : World} {v : Value} {l : List Vl} (h : VsAt w v l) (hw : ∀ V ∈ l, V.wf) (hl : bulk l ≤ 400000000) :
    Calls Tryd.prog 14 #[v] w (CodEnd w l) := by
  have HJ := hide (rjoin_any h hw hl)
  clear h hw hl
  unfold CodEnd
  generalize joinL l = X at *
  by_cases hx : X.length ≤ 480
  · simp only [if_pos hx]
    go_enter Tryd.func14, Tryd.ntmps14
    go_wp2_with fail
    refine HJ.out.mono ?_
    rintro e W2 ⟨u, rfl, hB⟩
    obtain ⟨ao, c, e1, c1, c2⟩ := hB.sl.len
    subst e1
    have HB := hide hB
    clear hB HJ
    generalize hn : X.length = n at *
    have HN := hide hn
    clear hn
    have hxi : ¬ (480 : Int) < (n : Int) := by omega
    go_wp2
    refine bodyPost_ret (results_tmp2 rfl _ _ _) rfl ?_
    exact ⟨_, rfl, HB.out⟩
  · simp only [if_neg hx]
    go_enter Tryd.func14, Tryd.ntmps14
    go_wp2_with fail
    refine HJ.out.mono ?_
    rintro e W2 ⟨u, rfl, hB⟩
    obtain ⟨ao, c, e1, c1, c2⟩ := hB.sl.len
    subst e1
    have HB := hide hB.below
    clear hB HJ
    generalize hn : X.length = n at *
    have HN := hide hn
    clear hn
    have hxi : (480 : Int) < (n : Int) := by omega
    go_wp2
    refine bodyPost_ret (results_tmp2 rfl _ _ _) rfl ?_
    exact ⟨rfl, HB.out⟩
end Go.Proofs.YtplpchaceiogaaaDoor
