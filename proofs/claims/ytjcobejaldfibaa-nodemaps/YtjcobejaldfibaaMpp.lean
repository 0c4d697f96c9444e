/- NodeMaps: nodes that a script makes, rows of strings of one's own. -/
import Derived.Test.YtjcobejaldfibaaFdp
import Derived.Test.YtjcobejaldfibaaCut
import Derived.Deep.LoopGhost
namespace Go.Proofs.Ytjcobejaldfibaa
open Go.RowKit
set_option linter.unusedVariables false
set_option linter.unusedSimpArgs false

/-- What the script's node is behind i rounds. -/
structure MP (N : Nd) (i : Nat) : Prop where
  leaf : N.leaf = true
  next : N.next = 0
  mat : N.matched = true
  few : N.keys.length ≤ i
  key : ∀ k ∈ N.keys, k.length ≤ 140737488355328
  val : ∀ k ∈ N.vals, k.length ≤ 140737488355328
theorem MP.vals {N : Nd} {i : Nat} (h : MP N i) : N.vals.length = N.keys.length := (matched_len h.leaf h.mat).1
theorem MP.kids {N : Nd} {i : Nat} (h : MP N i) : N.kids.length = 0 := (matched_len h.leaf h.mat).2
theorem MP.fits {N : Nd} {i : Nat} (h : MP N i) (hi : i ≤ 40) : Fits N :=
  ⟨by have := h.few; omega, by have := h.few; have := h.vals; omega, by have := h.kids; omega, h.key, h.val⟩
theorem MP.rk {N : Nd} {i : Nat} (h : MP N i) (hi : i ≤ 40) : (N.keys.length + 1) * 24 ≤ 140737488355328 := by have := h.few; omega
theorem MP.rv {N : Nd} {i : Nat} (h : MP N i) (hi : i ≤ 40) : (N.vals.length + 1) * 24 ≤ 140737488355328 := by have := h.few; have := h.vals; omega
theorem MP.start : MP ⟨true, [], [], [], 0⟩ 0 := ⟨rfl, rfl, rfl, Nat.le_refl _, fun k hk => by simp at hk, fun k hk => by simp at hk⟩
theorem MP.put {N : Nd} {i : Nat} (h : MP N i) (hi : i ≤ 40) {K V : List UInt8} (hk : K.length ≤ 140737488355328) (hv : V.length ≤ 140737488355328) : MP (putN N K V) (i + 1) := by
  have hI := put_is (K := K) (V := V) h.leaf h.mat
  have hF := put_fits (h.fits hi) hk hv (h.rk hi) (h.rv hi)
  refine ⟨hI.leaf, hI.next.trans h.next, hI.matched, ?_, hF.key, hF.val⟩
  rw [hI.len]
  have := h.few
  split <;> omega
theorem del_matched {N : Nd} {K : List UInt8} (h : N.leaf = true) (hm : N.matched = true) : (delN N K).matched = true := by
  cases hk : hasK N.keys K with
  | false =>
    rw [delN_not (by rw [delH_leaf h hm]; exact hk)]
    exact hm
  | true =>
    rw [delN_yes h hm hk]
    obtain ⟨h1, h2⟩ := matched_len h hm
    have hl := hasK_lt hk
    have e1 := cutL_len N.keys (plc N.keys K) hl
    have e2 := cutL_len N.vals (plc N.keys K) (by omega)
    unfold Nd.matched
    simp [cutN, h, e1, e2, h1, h2]
theorem MP.del {N : Nd} {i : Nat} (h : MP N i) (hi : i ≤ 40) {K : List UInt8} : MP (delN N K) (i + 1) := by
  have hF := del_fits (K := K) (h.fits hi)
  refine ⟨(delN_leaf N K).trans h.leaf, (delN_next N K).trans h.next, del_matched h.leaf h.mat, ?_, hF.key, hF.val⟩
  have := h.few
  cases hk : hasK N.keys K with
  | false => rw [delN_not (by rw [delH_leaf h.leaf h.mat]; exact hk)]; omega
  | true =>
    rw [delN_yes h.leaf h.mat hk]
    show (cutL N.keys (plc N.keys K)).length ≤ _
    rw [cutL_len _ _ (hasK_lt hk)]
    omega

/-! ### Rows of strings -/
structure SRow (w W : World) (v : Value) (L : List (List UInt8)) : Prop where
  own : W.ownsRow w.heap.size 9 1 v L.length (strCells L)
theorem SRow.nil (w W : World) : SRow w W (.slice none 0 0) [] := ⟨World.ownsRow_nil _ _ _ _⟩
theorem SRow.next {w W W' : World} {v : Value} {L : List (List UInt8)} (h : SRow w W v L) (hb : Below W.heap.size W W') : SRow w W' v L := ⟨owns_below h.own hb (Nat.le_refl _)⟩
theorem SRow.oth {w W W' : World} {v : Value} {L : List (List UInt8)} {e : TypeId} (h : SRow w W v L) (ho : Oth e W W') (he : 9 ≠ e) : SRow w W' v L := ⟨owns_oth h.own ho he⟩
theorem SRow.len {w W : World} {v : Value} {L : List (List UInt8)} (h : SRow w W v L) : ∃ a c, v = .slice a L.length c ∧ L.length ≤ c ∧ c ≤ maxLen := let ⟨a, c, e, h1, h2, _⟩ := Row.of_owns h.own; ⟨a, c, e, h1, h2⟩
theorem SRow.get {w W : World} {a : Option Addr} {n c : Nat} {L : List (List UInt8)} (h : SRow w W (.slice a n c) L) (i : Nat) (hi : i < L.length) : ∃ g, a = some ⟨g, 0, none⟩ ∧ W.cell? ⟨g, i, none⟩ = some (.string (strOf (L.getD i []))) ∧ W.frozen? ⟨g, i, none⟩ = false := by
  rcases h.own.2 with ⟨e, e0⟩ | ⟨g, cap, cur, e, hb, hg, c1, c2, c3, c4⟩
  · omega
  · injection e with e1 e2 e3
    refine ⟨g, e1, ?_, frozen_row hg⟩
    rw [Nat.mul_one] at c4
    have hu : (strCells L)[i]? = some (.string (strOf (L.getD i []))) := by simp [strCells, hi]
    rw [← c4, List.getElem?_take_of_lt hi] at hu
    rw [cell_row hg]
    simpa using hu
theorem strCells_take (L : List (List UInt8)) (n : Nat) : strCells (L.take n) = (strCells L).take n := by simp [strCells]
theorem strCells_drop (L : List (List UInt8)) (n : Nat) : strCells (L.drop n) = (strCells L).drop n := by simp [strCells]
theorem SRow.to {w W : World} {a : Option Addr} {n c : Nat} {L : List (List UInt8)} (h : SRow w W (.slice a n c) L) (k : Nat) (hk : k ≤ L.length) : Row W (.slice a k c) k (strCells (L.take k)) := by
  have hr := Row.of_owns h.own
  have hn : n = L.length := by obtain ⟨_, _, e, _⟩ := hr; injection e
  subst hn
  rw [strCells_take]
  exact hr.cut_to k hk
theorem SRow.from {w W : World} {a : Option Addr} {n c : Nat} {L : List (List UInt8)} (h : SRow w W (.slice a n c) L) (k : Nat) (hk : k ≤ L.length) : Row W (.slice (cutAt a c k) (L.length - k) (c - k)) (L.length - k) (strCells (L.drop k)) := by
  have hr := Row.of_owns h.own
  have hn : n = L.length := by obtain ⟨_, _, e, _⟩ := hr; injection e
  subst hn
  rw [strCells_drop]
  exact hr.cut_from (length_strCells L) k hk
/-- A string laid anew in a row of one's own. -/
theorem SRow.set {w W : World} {g n c : Nat} {L : List (List UInt8)} (h : SRow w W (.slice (some ⟨g, 0, none⟩) n c) L) (i : Nat) (hi : i < L.length) (l : List UInt8) :
    SRow w (W.setCell ⟨g, i, none⟩ (.string (strOf l))) (.slice (some ⟨g, 0, none⟩) n c) (L.set i l) ∧ Oth 9 W (W.setCell ⟨g, i, none⟩ (.string (strOf l))) ∧ w.heap.size ≤ g := by
  rcases h.own.2 with ⟨e, e0⟩ | ⟨g', cap, cur, e, hb, hg, c1, c2, c3, c4⟩
  · cases e
  · injection e with e1 e2 e3
    injection e1 with e1
    injection e1 with e1
    subst e1 e2 e3
    rw [Nat.mul_one] at c3 c4
    refine ⟨⟨?_⟩, fun q C t fr ht hq => ?_, hb⟩
    · have hs := heap_set_same (o := i) (.string (strOf l)) hg
      rw [List.length_set]
      refine ⟨by simp [strCells], .inr ⟨g, c, _, rfl, hb, hs, c1, c2, by simpa using c3, ?_⟩⟩
      rw [Nat.mul_one, Array.toList_setIfInBounds, List.take_set, c4]
      simp [strCells]
    · refine (set_stay g i _ (fun e => ?_)).trans hq
      subst e
      rw [hg] at hq
      simp at hq
      exact ht hq.2.1.symm
theorem build27_0 (w : World) : (Instr.buildSlice 27 0 #[]).run Try.prog w = .ok (.slice (some ⟨w.heap.size, 0, none⟩) 0 0) (w.alloc (.cells #[] 9)) := by kernel_rfl
theorem op_build27_0 (ρ : Operand → Value) (o : Oper) (ho : o.op = .buildSlice 27 0 #[]) (w : World) : (execOp ρ o).run Try.prog w = .ok (.value (.slice (some ⟨w.heap.size, 0, none⟩) 0 0)) (w.alloc (.cells #[] 9)) := by
  unfold execOp
  simp [ho, Sem.run_bind, build27_0 w]
theorem run_cut27_to (w : World) (ao : Option Addr) (n c h : Nat) (hh : h ≤ c) :
    (Instr.sliceAt 27 (.slice ao n c) none (some (.int .i64 (h : Int))) none).run Try.prog w = .ok (.slice ao h c) w := by
  have hu := Try.underlying27
  have h1 : (h : Int) ≤ (c : Int) := by omega
  have hsz : ∀ w, (sizeOf 9).run Try.prog w = .ok 1 w := fun w => by kernel_rfl
  simp [Instr.sliceAt, Instr.slice, run_underlying hu, Instr.sliceBounds, Instr.sliceBound, asIntOf, h1, hsz, Nat.mul_one, hh]
  by_cases e : c = 0
  · simp [e]
  · simp [e]
    cases ao with
    | none => rfl
    | some a => obtain ⟨g, o, s⟩ := a; cases s <;> simp [Addr.add]
theorem run_cut27_from (w : World) (ao : Option Addr) (n c l : Nat) (hl : l ≤ n) :
    (Instr.sliceAt 27 (.slice ao n c) (some (.int .i64 (l : Int))) none none).run Try.prog w = .ok (.slice (cutAt ao c l) (n - l) (c - l)) w := by
  have hu := Try.underlying27
  have h2 : (l : Int) ≤ (n : Int) := by omega
  have hsz : ∀ w, (sizeOf 9).run Try.prog w = .ok 1 w := fun w => by kernel_rfl
  simp [Instr.sliceAt, Instr.slice, run_underlying hu, Instr.sliceBounds, Instr.sliceBound, asIntOf, h2, hsz, cutAt, Nat.mul_one]
  by_cases e : c = l
  · simp [e]; intro hx; omega
  · simp [e]; intro hx; omega
theorem op_cut (ρ : Operand → Value) (o : Oper) (t : TypeId) (x : Operand) (lo hi mx : Option Operand) (ho : o.op = .slice t x lo hi mx) (px v : Value) (hx : ρ x = px) {P : Program} {w : World} (hr : (Instr.sliceAt t px (lo.map ρ) (hi.map ρ) (mx.map ρ)).run P w = .ok v w) : (execOp ρ o).run P w = .ok (.value v) w := by
  unfold execOp
  simp only [ho, hx, Sem.run_bind, hr, Result.andThen_ok, Sem.run_pure]
/-- Bools that came in. -/
def BoAt (w : World) (v : Value) (B : List Bool) : Prop := Row w v B.length (B.map Value.bool)
theorem BoAt.belowW {w w' : World} {v : Value} {B : List Bool} (h : BoAt w v B) (hb : Below w.heap.size w w') : BoAt w' v B := Row.belowW h hb
theorem BoAt.len {w : World} {v : Value} {B : List Bool} (h : BoAt w v B) : ∃ ao c, v = .slice ao B.length c ∧ B.length ≤ c ∧ c ≤ maxLen := let ⟨ao, c, e, h1, h2, _⟩ := h; ⟨ao, c, e, h1, h2⟩
theorem BoAt.get {w : World} {ao : Option Addr} {n c : Nat} {B : List Bool} (h : BoAt w (.slice ao n c) B) (i : Nat) (hi : i < B.length) : ∃ g o, ao = some ⟨g, o, none⟩ ∧ w.cell? ⟨g, o + i, none⟩ = some (.bool (B.getD i false)) := by
  obtain ⟨ao', c', e, h1, h2, h3⟩ := h
  injection e with e1 e2 e3
  subst e1
  have hu : (B.map Value.bool)[i]? = some (.bool (B.getD i false)) := by simp [hi]
  obtain ⟨g, o, ea, hr⟩ := h3 (fun h0 => by rw [h0] at hu; simp at hu)
  exact ⟨g, o, ea, hr i _ hu⟩
/-- Where the script stands. -/
structure MS (w W : World) (N : Nd) (n1 n2 n3 : Value) : Prop where
  below : Below w.heap.size w W
  box : Box 26 W w.heap.size (.bool true) n1 n2 n3 (.int .i64 0)
  own : NdOwn w.heap.size W N n1 n2 n3
theorem MS.next {w W W' : World} {N : Nd} {n1 n2 n3 : Value} (h : MS w W N n1 n2 n3) (hb : Below W.heap.size W W') : MS w W' N n1 n2 n3 := ⟨h.below.trans (hb.mono h.below.size), h.box.belowW hb, h.own.belowW hb⟩
theorem NdOwn.oth9 {base : Nat} {w w' : World} {N : Nd} {vk vv vi : Value} (h : NdOwn base w N vk vv vi) (ho : Oth 9 w w') : NdOwn base w' N vk vv vi :=
  ⟨h.keys.oth ho (by decide) (by decide), h.vals.oth ho (by decide) (by decide), owns_oth h.kids ho (by decide), h.apart⟩
theorem MS.set {w W : World} {N : Nd} {n1 n2 n3 u : Value} {g i : Nat} (h : MS w W N n1 n2 n3) (ho : Oth 9 W (W.setCell ⟨g, i, none⟩ u)) (hg : w.heap.size ≤ g) : MS w (W.setCell ⟨g, i, none⟩ u) N n1 n2 n3 :=
  ⟨below_set h.below h.below.size g i u hg, h.box.oth ho (by decide), h.own.oth9 ho⟩
/-- Another node comes into the box. -/
theorem MS.store {w W : World} {N N' : Nd} {n1 n2 n3 m1 m2 m3 : Value} (h : MS w W N n1 n2 n3) (ho : NdOwn w.heap.size W N' m1 m2 m3) :
    MS w (((((W.setCell ⟨w.heap.size, 0, none⟩ (.bool true)).setCell ⟨w.heap.size, 1, none⟩ m1).setCell ⟨w.heap.size, 2, none⟩ m2).setCell ⟨w.heap.size, 3, none⟩ m3).setCell ⟨w.heap.size, 4, none⟩ (.int .i64 0)) N' m1 m2 m3 :=
  ⟨below_setAll h.below w.heap.size _ _ _ _ _ (Nat.le_refl _) h.below.size, h.box.setAll _ _ _ _ _, ho.oth (h.box.othAll _ _ _ _ _)⟩
structure MI (w W : World) (k : Nat) (N : Nd) (n1 n2 n3 kv vv : Value) : Prop where
  mp : MP N k
  ms : MS w W N n1 n2 n3
  sk : SRow w W kv N.keys
  sv : SRow w W vv N.vals
  ap : ∀ g, kv.ownBlock = some g → vv.ownBlock ≠ some g
theorem MI.next {w W W' : World} {k : Nat} {N : Nd} {n1 n2 n3 kv vv : Value} (h : MI w W k N n1 n2 n3 kv vv) (hb : Below W.heap.size W W') : MI w W' k N n1 n2 n3 kv vv := ⟨h.mp, h.ms.next hb, h.sk.next hb, h.sv.next hb, h.ap⟩
theorem MI.more {w W : World} {k k' : Nat} {N : Nd} {n1 n2 n3 kv vv : Value} (h : MI w W k N n1 n2 n3 kv vv) (hk : k ≤ k') : MI w W k' N n1 n2 n3 kv vv := ⟨⟨h.mp.leaf, h.mp.next, h.mp.mat, Nat.le_trans h.mp.few hk, h.mp.key, h.mp.val⟩, h.ms, h.sk, h.sv, h.ap⟩
theorem MI.start (w : World) : MI w (w.alloc (.cells #[.bool true, .slice none 0 0, .slice none 0 0, .slice none 0 0, .int .i64 0] 26)) 0 ⟨true, [], [], [], 0⟩ (.slice none 0 0) (.slice none 0 0) (.slice none 0 0) (.slice none 0 0) (.slice none 0 0) :=
  ⟨MP.start, ⟨(Below.refl _ _).alloc (Nat.le_refl _) _, Box.new _ _ _ _ _ _, ⟨TsOwn.nil _ _, TsOwn.nil _ _, World.ownsRow_nil _ _ _ _, fun k hk => by simp [Value.ownBlock] at hk⟩⟩, SRow.nil _ _, SRow.nil _ _, fun g hg => by simp [Value.ownBlock] at hg⟩
theorem MI.forms {w W : World} {k : Nat} {N : Nd} {n1 n2 n3 kv vv : Value} (h : MI w W k N n1 n2 n3 kv vv) :
    ∃ a1 c1 a2 c2 a3 c3 ka kc va vc, n1 = .slice a1 N.keys.length c1 ∧ n2 = .slice a2 N.keys.length c2 ∧ n3 = .slice a3 0 c3 ∧ kv = .slice ka N.keys.length kc ∧ vv = .slice va N.keys.length vc ∧ N.keys.length ≤ kc ∧ N.keys.length ≤ vc ∧ kc ≤ maxLen ∧ vc ≤ maxLen := by
  obtain ⟨a1, c1, e1, _⟩ := h.ms.own.at.keys.len
  obtain ⟨a2, c2, e2, _⟩ := h.ms.own.at.vals.len
  obtain ⟨a3, c3, e3⟩ := owns_len h.ms.own.kids
  obtain ⟨ka, kc, e4, h4, h4'⟩ := h.sk.len
  obtain ⟨va, vc, e5, h5, h5'⟩ := h.sv.len
  rw [h.mp.vals] at e2 e5 h5
  rw [h.mp.kids] at e3
  exact ⟨a1, c1, a2, c2, a3, c3, ka, kc, va, vc, e1, e2, e3, e4, e5, h4, h5, h4', h5'⟩
end Go.Proofs.Ytjcobejaldfibaa
