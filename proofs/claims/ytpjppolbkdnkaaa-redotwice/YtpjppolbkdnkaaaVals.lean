/- maps.Values, slices.Collect, slices.Min over a map of ints. -/
import Derived.Test.YtpjppolbkdnkaaaFind
import Derived.Test.YtpjppolbkdnkaaaLib
import Derived.RangeFuncSeq
import Derived.Sort.MapsRangeIn
import Derived.Sort.KeysCollected
import Derived.WalkKit
import Derived.OwnWalkIn
import Derived.TacticsInMore
import Derived.RegionIn
import Derived.LoopNIn
import Derived.LoopIn
namespace Go.Proofs.Ytpjppolbkdnkaaa
open Go.RowKit Go.Maps Go.Sort Go.Shelf
set_option linter.unusedVariables false
set_option linter.unusedSimpArgs false

/-- What has come of the map's values. -/
def Came (f : Int → Option Int) (left : Lit → Bool) (ss : List Int) : Prop :=
  (∀ k v, In64 k → f k = some v → left (.int .i64 k) = false → v ∈ ss) ∧ (∀ v ∈ ss, ∃ k, In64 k ∧ f k = some v)
def ValsOf (f : Int → Option Int) (ss : List Int) : Prop :=
  (∀ k v, In64 k → f k = some v → v ∈ ss) ∧ (∀ v ∈ ss, ∃ k, In64 k ∧ f k = some v)

set_option maxRecDepth 100000 in
set_option maxHeartbeats 1000000 in
theorem values1_in (F : Fence) (n : Nat) (h10 : F.fn 78) (hro : F.round = none) (hn : 1 ≤ n) (l Bm b nn : Nat) (D0 : DataW Unit) (f : Int → Option Int) (J : List Int → World → Prop)
    (hf : ∀ k, In64 k → Maps.has D0 (.int .i64 k) = (f k).isSome ∧ D0.atKey (.int .i64 k) (.lit (.int .i64 0)) = .lit (.int .i64 ((f k).getD 0)) ∧ In64 ((f k).getD 0))
    (hY : ∀ pre x W, J pre W → pre.length < Maps.size D0 → YieldAt F (n - 1) Try.prog l #[encZ x] W fun e W' => e = .returned (.bool true) ∧ J (pre ++ [x]) W' ∧ KeepsWalks W W')
    (W : World) (hJ : AbidesFrom W.heap.size J) (hm : W.cell? ⟨Bm, 0, none⟩ = some (.map (some b))) (hown : W.ownsMap Try.prog 3 (plainElem Try.prog 3) b nn D0) (h0 : J [] W) :
    CallsIn F n Try.prog 78 #[.func (.yield l) #[] #[], .pointer (some ⟨Bm, 0, none⟩)] W fun e W' => (∃ v, e = .returned v) ∧ ∃ ss : List Int, ValsOf f ss ∧ J ss W' := by
  refine callsIn_of_wp Try.func78 rfl h10 ?_ hro
  simp only [Try.ntmps78, List.size_toArray, List.length_cons, List.length_nil, Nat.reduceAdd, Nat.reduceSub, Array.replicate_succ, Array.replicate_zero, List.push_toArray, List.append_toArray, List.nil_append, List.cons_append]
  gi_wp2_with (first
    | (gi_at_range; refine wpListIn_range_own _ rfl _ 68 rfl 3 3 keyedI Try.underlying68 _ b nn _ rfl hown ?_; intro w0 hrg0 hg0 hs0)
    | gi_in)
  go_frame
  gi_loopw [4] (fun _ wr => ∃ (left : Lit → Bool) (cnt : Nat) (ss : List Int), wr.ranges Try.prog 3 (plainElem Try.prog 3) b W.heap.size nn D0 left cnt ∧ ss.length + cnt ≤ Maps.size D0 ∧ Came f left ss ∧ J ss wr)
    (fun _ wr => wr.rangeLeft b W.heap.size)
  case atStart =>
    refine ⟨_, _, [], hrg0, by simp, ⟨fun k v hk hfk hl => ?_, by simp⟩, hJ [] W w0 none h0 hg0 (fun r e => by cases e)⟩
    have := (hf k hk).1
    rw [hfk] at this
    rw [this] at hl
    exact absurd hl (by simp)
  case round =>
    obtain ⟨left, cnt, ss, hrg, hcs, hC, hJs⟩ := hrel
    gi_wp2_with (first
      | (gi_at_next; refine wpListIn_next_ranges _ rfl _ rfl 3 keyedI (plainElem Try.prog 3) encZ (Value.int .i64) (fun key kl hk => by obtain ⟨x, hx, _⟩ := Maps.keyOf_i64 Try.underlying3 hk; exact ⟨x, hx⟩) (fun v y hv => by obtain ⟨c, rfl, _⟩ := plainElem_int_inv Try.underlying3 hv; exact ⟨c, rfl⟩) b W.heap.size nn _ _ _ rfl hrg ?_ ?_)
      | gi_in)
    · intro hc0 hl0
      gi_wp2
      go_end0
      exact ⟨⟨_, rfl⟩, ss, ⟨fun k v hk hfk => hC.1 k v hk hfk (hl0 _), hC.2⟩, hJs⟩
    · intro x c kl yd yp w2 cnt2 hkey hlk hv hat hrg2 hlt hg2 hs2 hen
      obtain ⟨x', ex, rfl, hwf⟩ := Maps.keyOf_i64 Try.underlying3 hkey
      obtain rfl : x = x' := encZ_inj ex
      have hJ2 : J ss w2 := hJ ss wr w2 (some W.heap.size) hJs hg2 (fun r e => by cases e; exact ⟨Nat.le_refl _, hrg.iter_walk⟩)
      have hx64 : In64 x := in64 hwf
      have hfx : f x = some c := by
        obtain ⟨a1, a2, a3⟩ := hf x hx64
        obtain ⟨c', ec, hc, hwc⟩ := plainElem_int_inv Try.underlying3 hv
        have ec' : c = c' := (Value.int.inj ec).2
        subst ec'
        have hyd : yd = .lit (.int .i64 c) := by first | exact congrArg Prod.fst hc | simpa using hc
        rw [hat, hyd] at a2
        have a4 : c = (f x).getD 0 := (Lit.int.inj (DataW.lit.inj a2)).2
        rw [has_true_of_atKey hat] at a1
        cases hfx : f x with
        | none => rw [hfx] at a1; exact absurd a1 (by simp)
        | some y => rw [hfx] at a4; exact congrArg some a4.symm
      obtain ⟨fn, tmps, assign, body, hy, hR⟩ := hY ss c w2 hJ2 (by omega)
      clear hs2
      gi_wp2
      refine hR.mono ?_
      rintro e W3 ⟨rfl, hJ3, hk3⟩
      gi_wp2
      have hrg3 := hrg2.of_walks hk3
      go_roundw
      case rel =>
        refine ⟨_, cnt2, ss ++ [c], hrg3, by simp; omega, ⟨fun k v hk hfk hl => ?_, fun v hv => ?_⟩, hJ3⟩
        · by_cases e : k = x
          · subst e
            rw [hfx] at hfk
            injection hfk with e
            rw [← e]; simp
          · refine List.mem_append.2 (.inl (hC.1 k v hk hfk ?_))
            simpa [e, Lit.sameKey] using hl
        · rcases List.mem_append.1 hv with h | h
          · exact hC.2 v h
          · simp at h; subst h; exact ⟨x, hx64, hfx⟩
      case measure => rw [hrg3.left_eq, hrg.left_eq]; exact hlt
set_option maxHeartbeats 1000000 in
theorem values_in (F : Fence) (n : Nat) (h7 : F.fn 57) (hro : F.round = none) (mb : Option Nat) (w : World) :
    CallsIn F n Try.prog 57 #[.map mb] w fun e w' => e = .returned (.func (.func 78) #[] #[.pointer (some ⟨w.heap.size, 0, none⟩)]) ∧ w' = w.alloc (.cells #[.map mb] 68) := by
  refine callsIn_of_wp Try.func57 rfl h7 ?_ hro
  simp only [Try.ntmps57, List.size_toArray, List.length_cons, List.length_nil, Nat.reduceAdd, Nat.reduceSub, Array.replicate_succ, Array.replicate_zero, List.push_toArray, List.append_toArray, List.nil_append, List.cons_append]
  gi_wp2
  go_ret
  exact ⟨rfl, rfl⟩
theorem values_any (b : Nat) (w : World) : Calls Try.prog 57 #[.map (some b)] w fun e w' => e = .returned (.func (.func 78) #[] #[.pointer (some ⟨w.heap.size, 0, none⟩)]) ∧ w' = w.alloc (.cells #[.map (some b)] 68) :=
  (callsIn_wide (n := 6)).1 (values_in Fence.wide 6 trivial rfl (some b) w)

theorem collect_any (Bm b nn : Nat) (f : Int → Option Int) (w : World) (hBm : w.heap[Bm]? = some (.cells #[.map (some b)] 68 (0, 0))) (h : MapI w b nn f) (hnn : nn ≤ 1000000000) :
    Calls Try.prog 56 #[.func (.func 78) #[] #[.pointer (some ⟨Bm, 0, none⟩)]] w fun e w' => ∃ (v : Value) (ss : List Int), e = .returned v ∧ ValsOf f ss ∧ w'.ownsRow w.heap.size 3 1 v ss.length (ss.map encZ) ∧ Below w.heap.size w w' := by
  refine (callsIn_wide (n := 6)).1 ?_
  obtain ⟨D, hown, hf⟩ := h
  have hlt := hown.lt
  have hBlt : Bm < w.heap.size := (Array.getElem?_eq_some_iff.1 hBm).1
  have hsz : Maps.size D ≤ nn := World.ownsMap.size_le hown
  have hseq : SeqGives Fence.wide 4 Try.prog 78 #[.pointer (some ⟨Bm, 0, none⟩)] encZ (ValsOf f) (Maps.size D) w := fun l J W hW hJ hY h0 => by
    have hown' : W.ownsMap Try.prog 3 (plainElem Try.prog 3) b nn D := by
      obtain ⟨es, clock, hb, Ft, hs, hD⟩ := hown
      exact ⟨es, clock, (hW.block b hlt).trans hb, Ft, hs, hD⟩
    refine values1_in Fence.wide 4 trivial rfl (by omega) l Bm b nn D f J hf hY W hJ ?_ hown' h0
    have e := (hW.block Bm hBlt).trans hBm
    exact (cell_of_box_a e).1
  refine (AnyZI.collect_in Try.collI Fence.wide 6 trivial trivial rfl (by omega) 78 #[.pointer (some ⟨Bm, 0, none⟩)] trivial (enters_of Try.func78 (by kernel_rfl) rfl) (ValsOf f) (Maps.size D) (by simp only [maxLen]; omega) (by omega) w hseq).mono ?_
  rintro e w' ⟨v, ss, rfl, hS, hrow, hnil, hb⟩
  exact ⟨v, ss, rfl, hS, hrow, hb⟩
end Go.Proofs.Ytpjppolbkdnkaaa
