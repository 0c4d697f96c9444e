/- LockSafe: where its walk stands. -/
import Derived.Test.YtffjdjbjkjefoaaBkw
import Derived.Test.YtffjdjbjkjefoaaSaf
import Derived.Test.YtffjdjbjkjefoaaScr
namespace Go.Proofs.Ytffjdjbjkjefoaa
open Go.RowKit Go.WideAt
set_option linter.unusedVariables false
set_option linter.unusedSimpArgs false

structure St (w : World) (t : Nat) (W : World) (B : Tb) (m : Held) (N : Nat) (v : Value) (ids : List Int) : Prop where
  tab : At w t W B m N
  row : W.ownsRow w.heap.size 3 1 v ids.length (ids.map icell)
  free : ∀ k, v.ownBlock = some k → ¬ B.own k
  all : ∀ x ∈ ids, In64 x
  safe : Safe m
section
variable {w W W' : World} {t : Nat} {B B' : Tb} {m m' : Held} {N N' : Nat} {v : Value} {ids : List Int}
theorem St.by (h : St w t W B m N v ids) (hb : Below W.heap.size W W') : St w t W' B m N v ids := ⟨h.tab.by hb, owns_below h.row hb (Nat.le_refl _), h.free, h.all, h.safe⟩
theorem St.mono (h : St w t W B m N v ids) (hN : N ≤ N') : St w t W B m N' v ids := ⟨⟨h.tab.tab.mono hN, h.tab.below, h.tab.t⟩, h.row, h.free, h.all, h.safe⟩
theorem St.moved (h : St w t W B m N v ids) (hT : TabIs W' w.heap.size B' m' N') (hM : Moves B B' W W') (hs : Safe m') : St w t W' B' m' N' v ids :=
  ⟨h.tab.moved hT hM, owns_stay h.row fun k hk => hM.block k (h.row.lt k hk).2 (h.free k hk), fun k hk hb => by
    have hl := (h.row.lt k hk).2
    rcases hM.own k hb with h1 | h1
    · exact h.free k hk h1
    · omega, h.all, hs⟩
theorem St.release (h : St w t W B m N v ids) {id : Int} (hid : In64 id) (hN : N ≤ 281474976710656) :
    Calls Try.prog 12 #[.pointer (some ⟨t, 0, none⟩), .int .i64 id] W fun e W' => ∃ B', e = .returned (.tuple #[]) ∧ St w t W' B' (freeH m id) N v ids ∧ Moves B B' W W' := by
  have h1 := release_any h.tab.tab hN hid
  rw [h.tab.t] at h1
  refine h1.mono ?_
  rintro e W' ⟨rfl, B', hT, hM⟩
  exact ⟨B', rfl, h.moved hT hM (h.safe.free id), hM⟩
theorem St.held (h : St w t W B m N v ids) {id : Int} (hid : In64 id) (hN : N ≤ 1000000000000) :
    Calls Try.prog 10 #[.pointer (some ⟨t, 0, none⟩), .int .i64 id] W fun e W' => ∃ ao c L, e = .returned (.slice ao L.length c) ∧ HeldIs m id L ∧ L.length ≤ N ∧ Wl W' ao L ∧ Below W.heap.size W W' := by
  have h1 := held_all h.tab.tab hid (by have := h.tab.tab.names_le id; omega)
  rw [h.tab.t] at h1
  refine h1.mono ?_
  rintro e W' ⟨v, L, rfl, hr, hL, hn, hb⟩
  obtain ⟨ao, c, rfl⟩ := owns_len hr
  exact ⟨ao, c, L, rfl, hL, hn, Wl.of_owns hr, hb⟩
theorem St.ask (h : St w t W B m N v ids) {id : Int} (hid : In64 id) {aa : Option Addr} {c : Nat} {l : List (List UInt8 × Int)} (hl : WantsAt W aa l) (hN : N ≤ 1000000000000) :
    Calls Try.prog 11 #[.pointer (some ⟨t, 0, none⟩), .int .i64 id, .slice aa l.length c] W fun e W' => ∃ ao c' A, e = .returned (.slice ao A.length c') ∧ Against m (grownF (m id) l) id A ∧ Below W.heap.size W W' := by
  have h1 := ask_any (c := c) h.tab.tab hid hl (by omega)
  rw [h.tab.t] at h1
  refine h1.mono ?_
  rintro e W' ⟨v, A, rfl, hr, hA, _, hb⟩
  obtain ⟨ao, c', rfl⟩ := owns_len hr
  exact ⟨ao, c', A, rfl, hA, hb⟩
theorem St.take (h : St w t W B m N v ids) {id : Int} (hid : In64 id) {aa : Option Addr} {c : Nat} {l : List (List UInt8 × Int)} (hl : WantsAt W aa l) (hN : N + l.length ≤ 1000000000000) :
    Calls Try.prog 9 #[.pointer (some ⟨t, 0, none⟩), .int .i64 id, .slice aa l.length c] W fun e W' => ∃ A B' m', Against m (grownF (m id) l) id A ∧ e = .returned (.bool A.isEmpty) ∧ St w t W' B' m' (N + l.length) v ids ∧ Moves B B' W W' := by
  have h1 := take_any (c := c) h.tab.tab hid hl (by omega)
  rw [h.tab.t] at h1
  refine h1.mono ?_
  rintro e W' ⟨A, B', m', hA, rfl, hT, hM, hm⟩
  refine ⟨A, B', m', hA, rfl, h.moved hT hM ?_, hM⟩
  rw [hm]
  split
  · rename_i e
    subst e
    exact h.safe.take (fun x s p hp => (h.tab.tab.good x s p hp).1) (fun s p hp => (grownF_ok _ _ s p hp).1) hA
  · exact h.safe
theorem St.push (h : St w t W B m N v ids) {id : Int} (hid : In64 id) {v' : Value} (ho : W'.ownsRow w.heap.size 3 1 v' (ids.length + 1) (ids.map icell ++ [.int .i64 id])) (hg : W.grownBy W' v.ownBlock) : St w t W' B m N v' (ids ++ [id]) := by
  have hB : Below w.heap.size w W' := h.tab.below.grown hg h.tab.below.size (fun k e => (h.row.lt k e).1)
  have hT : TabIs W' w.heap.size B m N := h.tab.tab.stay fun k hk => hg.block k (h.tab.tab.lt hk) fun e => by
    rcases hk with hk | hk
    · subst hk
      exact owns_ne h.row h.tab.tab.cell (by decide) e.symm
    · exact h.free k e.symm hk
  refine ⟨⟨hT, hB, h.tab.t⟩, by simpa [icell] using ho, fun k hk hb => ?_, fun x hx => ?_, h.safe⟩
  · rcases own_of ho with ⟨rfl, _, _⟩ | ⟨g, cap, cur, rfl, h1, h2, _⟩
    · cases hk
    · injection hk with hk
      subst hk
      rcases hb with e | e | ⟨s, hs⟩ | ⟨x, vv, hx, hv⟩
      · have e' : g = B.bo := e
        subst e'
        exact map_ne_cells hT.hon h2 rfl
      · have e' : g = B.bf := e
        subst e'
        exact map_ne_cells hT.hof h2 rfl
      · exact map_ne_cells (hT.inner s g hs) h2 rfl
      · obtain ⟨C, hC⟩ := row_block (hT.rows x vv hx) hv
        rw [h2] at hC
        injection hC with hC
        injection hC with _ hC
        exact absurd hC (by decide)
  · rcases List.mem_append.1 hx with h1 | h1
    · exact h.all x h1
    · rw [List.mem_singleton] at h1
      subst h1
      exact hid
theorem St.get (h : St w t W B m N v ids) {i : Nat} (hi : i < ids.length) : ∃ g c, v = .slice (some ⟨g, 0, none⟩) ids.length c ∧ W.cell? ⟨g, i, none⟩ = some (.int .i64 (ids.getD i 0)) := by
  rcases own_of h.row with ⟨_, h1, _⟩ | ⟨g, cap, cur, rfl, h1, h2, h3, h4, h5, h6⟩
  · omega
  · refine ⟨g, cap, rfl, ?_⟩
    rw [cell_row h2]
    have e : cur.toList[i]? = some (.int .i64 (ids.getD i 0)) := by
      have e1 : (cur.toList.take (ids.length * 1))[i]? = (ids.map icell)[i]? := by rw [h6]
      rw [List.getElem?_take, if_pos (by omega)] at e1
      rw [e1]
      simp [icell, hi]
    rw [← e, Array.getElem?_toList]
end
theorem run_index27 (w : World) (g n cap i : Nat) (h : i < n) : (Instr.indexAt 27 (.slice (some ⟨g, 0, none⟩) n cap) (.int .i64 (i : Int))).run Try.prog w = .ok (.pointer (some ⟨g, i, none⟩)) w := by
  have hu := Try.underlying27
  have hs := Try.sizeOf3
  simp [go_sem, hu, hs, h]
end Go.Proofs.Ytffjdjbjkjefoaa
