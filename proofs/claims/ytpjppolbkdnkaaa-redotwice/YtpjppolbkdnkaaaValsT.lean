/- maps.Values and slices.Collect over a map of transactions. -/
import Derived.Test.YtpjppolbkdnkaaaSorts
namespace Go.Proofs.Ytpjppolbkdnkaaa
open Go.RowKit Go.Maps Go.Sort Go.Shelf
set_option linter.unusedVariables false
set_option linter.unusedSimpArgs false
attribute [local go_sem] Oper.semAt_some

def encT (x : Tx) : Value := .agg (txCells x).toArray
/-- What has come of the map's values: each key's once. -/
def CameT (f : Int → Option Tx) (left : Lit → Bool) (ks : List Int) (ss : List Tx) : Prop :=
  ks.Nodup ∧ ks.map f = ss.map some ∧ (∀ k ∈ ks, In64 k ∧ left (.int .i64 k) = false) ∧ (∀ k, In64 k → (f k).isSome = true → left (.int .i64 k) = false → k ∈ ks)
/-- The map's values, each key's once. -/
def ValsT (f : Int → Option Tx) (ss : List Tx) : Prop :=
  ∃ ks : List Int, ks.Nodup ∧ ks.map f = ss.map some ∧ (∀ k ∈ ks, In64 k) ∧ (∀ k, In64 k → (f k).isSome = true → k ∈ ks)

set_option maxRecDepth 100000 in
set_option maxHeartbeats 1000000 in
theorem values1T_in (F : Fence) (n : Nat) (h10 : F.fn 48) (hro : F.round = none) (hn : 1 ≤ n) (l Bm b nn : Nat) (D0 : DataW Tx) (f : Int → Option Tx) (J Jx : List Tx → World → Prop)
    (hf : ∀ k, In64 k → Maps.has D0 (.int .i64 k) = (f k).isSome ∧ D0.atKey (.int .i64 k) (.held Tx.zero) = .held ((f k).getD Tx.zero))
    (hY : ∀ pre x W, J pre W → pre.length < Maps.size D0 → YieldAt F (n - 1) Try.prog l #[encT x] W fun e W' => (e = .returned (.bool true) ∧ J (pre ++ [x]) W' ∧ KeepsWalks W W') ∨ (e = .returned (.bool false) ∧ Jx (pre ++ [x]) W'))
    (W : World) (hJ : AbidesFrom W.heap.size J) (hm : W.cell? ⟨Bm, 0, none⟩ = some (.map (some b))) (hown : W.ownsMap Try.prog 3 rT b nn D0) (h0 : J [] W) :
    CallsIn F n Try.prog 48 #[.func (.yield l) #[] #[], .pointer (some ⟨Bm, 0, none⟩)] W fun e W' => (∃ v, e = .returned v) ∧ ((∃ ss : List Tx, ValsT f ss ∧ J ss W') ∨ (∃ pre : List Tx, True ∧ Jx pre W')) := by
  refine callsIn_of_wp Try.func48 rfl h10 ?_ hro
  simp only [Try.ntmps48, List.size_toArray, List.length_cons, List.length_nil, Nat.reduceAdd, Nat.reduceSub, Array.replicate_succ, Array.replicate_zero, List.push_toArray, List.append_toArray, List.nil_append, List.cons_append]
  gi_wp2_with (first
    | (gi_at_range; refine wpListIn_range_own _ rfl _ 67 rfl 3 47 keyedI Try.underlying67 _ b nn _ rfl hown ?_; intro w0 hrg0 hg0 hs0)
    | gi_in)
  go_frame
  gi_loopw [4] (fun _ wr => ∃ (left : Lit → Bool) (cnt : Nat) (ks : List Int) (ss : List Tx), wr.ranges Try.prog 3 rT b W.heap.size nn D0 left cnt ∧ ss.length + cnt ≤ Maps.size D0 ∧ CameT f left ks ss ∧ J ss wr)
    (fun _ wr => wr.rangeLeft b W.heap.size)
  case atStart =>
    refine ⟨_, _, [], [], hrg0, by simp, ⟨List.nodup_nil, rfl, by simp, fun k hk hfk hl => ?_⟩, hJ [] W w0 none h0 hg0 (fun r e => by cases e)⟩
    rw [(hf k hk).1, hfk] at hl
    exact absurd hl (by simp)
  case round =>
    obtain ⟨left, cnt, ks, ss, hrg, hcs, hC, hJs⟩ := hrel
    gi_wp2_with (first
      | (gi_at_next; refine wpListIn_next_ranges _ rfl _ rfl 3 keyedI rT encZ encT (fun key kl hk => by obtain ⟨x, hx, _⟩ := Maps.keyOf_i64 Try.underlying3 hk; exact ⟨x, hx⟩) (fun v y hv => by obtain ⟨y1, y2⟩ := y; obtain ⟨c, rfl, _⟩ := rT_inv hv; exact ⟨c, rfl⟩) b W.heap.size nn _ _ _ rfl hrg ?_ ?_)
      | gi_in)
    · intro hc0 hl0
      gi_wp2
      go_end0
      exact ⟨⟨_, rfl⟩, .inl ⟨ss, ⟨ks, hC.1, hC.2.1, fun k hk => (hC.2.2.1 k hk).1, fun k hk hfk => hC.2.2.2 k hk hfk (hl0 _)⟩, hJs⟩⟩
    · intro x c kl yd yp w2 cnt2 hkey hlk hv hat hrg2 hlt hg2 hs2 hen
      obtain ⟨x', ex, rfl, hwf⟩ := Maps.keyOf_i64 Try.underlying3 hkey
      obtain rfl : x = x' := encZ_inj ex
      have hJ2 : J ss w2 := hJ ss wr w2 (some W.heap.size) hJs hg2 (fun r e => by cases e; exact ⟨Nat.le_refl _, hrg.iter_walk⟩)
      have hx64 : In64 x := in64 hwf
      have hfx : f x = some c := by
        obtain ⟨a1, a2⟩ := hf x hx64
        have hyd : yd = .held c := by
          rw [show rT (encT c) = some (.held c, []) from rT_mk c] at hv
          injection hv with hv
          exact (congrArg Prod.fst hv).symm
        rw [hat, hyd] at a2
        have a4 : c = (f x).getD Tx.zero := by injection a2
        rw [has_true_of_atKey hat] at a1
        cases hfx : f x with
        | none => rw [hfx] at a1; exact absurd a1 (by simp)
        | some y => rw [hfx] at a4; exact congrArg some a4.symm
      clear hs2
      obtain ⟨w3, hw3⟩ : ∃ w3, w2.alloc (.cells (txCells c).toArray 47) = w3 := ⟨_, rfl⟩
      have hJ3 : J ss w3 := hJ ss w2 w3 none hJ2 (by rw [← hw3]; exact World.grownBy_alloc _ _ _) (fun r e => by cases e)
      obtain ⟨fn, tmps, assign, body, hy, hR⟩ := hY ss c w3 hJ3 (by omega)
      have hkw : KeepsWalks w2 w3 := by rw [← hw3]; exact KeepsWalks.alloc _ _
      have hG3 : w3.heap[w2.heap.size]? = some (.cells (txCells c).toArray 47 (0, 0)) := by rw [← hw3]; exact heap_alloc_new _ _
      have d0 : w3.cell? ⟨w2.heap.size, 0, none⟩ = some (.int .i64 c.id) := by rw [cell_of_row _ _ _ _ _ _ hG3]; rfl
      have d1 : w3.cell? ⟨w2.heap.size, 1, none⟩ = some (.int .i64 c.last) := by rw [cell_of_row _ _ _ _ _ _ hG3]; rfl
      have d2 : w3.cell? ⟨w2.heap.size, 2, none⟩ = some (.int .i64 c.st) := by rw [cell_of_row _ _ _ _ _ _ hG3]; rfl
      simp only [encT, txCells] at hen hy hw3 ⊢
      gi_wp2
      refine hR.mono ?_
      rintro e W3 (⟨rfl, hJ4, hk3⟩ | ⟨rfl, hJ4⟩)
      · gi_wp2
        have hrg3 := hrg2.of_walks (hkw.trans hk3)
        go_roundw
        case rel =>
          refine ⟨_, cnt2, ks ++ [x], ss ++ [c], hrg3, by simp; omega, ⟨?_, ?_, ?_, ?_⟩, hJ4⟩
          · refine List.nodup_append.2 ⟨hC.1, by simp, fun a ha b hb => ?_⟩
            simp at hb; subst hb
            intro e; subst e
            have := (hC.2.2.1 _ ha).2
            rw [hlk] at this; cases this
          · rw [List.map_append, List.map_append, hC.2.1]; simp [hfx]
          · intro k hk
            rcases List.mem_append.1 hk with h | h
            · exact ⟨(hC.2.2.1 k h).1, by simp [(hC.2.2.1 k h).2]⟩
            · simp at h; subst h; exact ⟨hx64, by simp [Lit.sameKey]⟩
          · intro k hk hfk hl
            by_cases e : k = x
            · subst e; simp
            · exact List.mem_append.2 (.inl (hC.2.2.2 k hk hfk (by simpa [e, Lit.sameKey] using hl)))
        case measure => rw [hrg3.left_eq, hrg.left_eq]; exact hlt
      · gi_wp2
        refine bodyPost_ret (results_none rfl _ _ _) rfl ?_
        exact ⟨⟨_, rfl⟩, .inr ⟨_, trivial, hJ4⟩⟩
theorem valuesT_stops (F : Fence) (n : Nat) (h : F.fn 48) (hro : F.round = none) (hn : 1 ≤ n) (Bm b nn : Nat) (f : Int → Option Tx) (D0 : DataW Tx) (w : World) (hBm : w.heap[Bm]? = some (.cells #[.map (some b)] 67 (0, 0))) (hown : w.ownsMap Try.prog 3 rT b nn D0)
    (hf : ∀ k, In64 k → Maps.has D0 (.int .i64 k) = (f k).isSome ∧ D0.atKey (.int .i64 k) (.held Tx.zero) = .held ((f k).getD Tx.zero)) :
    SeqStopsK F n Try.prog 48 #[.pointer (some ⟨Bm, 0, none⟩)] (fun x : Tx => #[encT x]) KeepsWalks (ValsT f) (fun _ => True) (Maps.size D0) w := fun l J Jx W hW hJ _ hY h0 => by
  have hlt := hown.lt
  have hown' : W.ownsMap Try.prog 3 rT b nn D0 := by
    obtain ⟨es, clock, hb, Ft, hs, hD⟩ := hown
    exact ⟨es, clock, (hW.block b hlt).trans hb, Ft, hs, hD⟩
  have e := (hW.block Bm (Array.getElem?_eq_some_iff.1 hBm).1).trans hBm
  exact values1T_in F n h hro hn l Bm b nn D0 f J Jx hf hY W hJ (cell_of_box_a e).1 hown' h0
set_option maxHeartbeats 1000000 in
theorem valuesT_in (F : Fence) (n : Nat) (h7 : F.fn 25) (hro : F.round = none) (mb : Option Nat) (w : World) :
    CallsIn F n Try.prog 25 #[.map mb] w fun e w' => e = .returned (.func (.func 48) #[] #[.pointer (some ⟨w.heap.size, 0, none⟩)]) ∧ w' = w.alloc (.cells #[.map mb] 67) := by
  refine callsIn_of_wp Try.func25 rfl h7 ?_ hro
  simp only [Try.ntmps25, List.size_toArray, List.length_cons, List.length_nil, Nat.reduceAdd, Nat.reduceSub, Array.replicate_succ, Array.replicate_zero, List.push_toArray, List.append_toArray, List.nil_append, List.cons_append]
  gi_wp2
  go_ret
  exact ⟨rfl, rfl⟩
theorem valuesT_any (b : Nat) (w : World) : Calls Try.prog 25 #[.map (some b)] w fun e w' => e = .returned (.func (.func 48) #[] #[.pointer (some ⟨w.heap.size, 0, none⟩)]) ∧ w' = w.alloc (.cells #[.map (some b)] 67) :=
  (callsIn_wide (n := 6)).1 (valuesT_in Fence.wide 6 trivial rfl (some b) w)
end Go.Proofs.Ytpjppolbkdnkaaa
