/- The law's fit; nodes in boxes; cut and put together, as lists. -/
import Derived.Test.YtjcobejaldfibaaREi
import Derived.Test.YtjcobejaldfibaaSam
import Derived.Test.YtjcobejaldfibaaAwa
import Derived.Test.YtjcobejaldfibaaMrg
namespace Go.Proofs.Ytjcobejaldfibaa
open Go.RowKit
set_option linter.unusedVariables false
set_option linter.unusedSimpArgs false

theorem rencode_any {w : World} {N : Nd} {uk uv vi : Value} (h : RdAt w N uk uv vi) (hf : Fits N) :
    Calls Try.prog 18 #[.agg #[.bool N.leaf, uk, uv, vi, .int .i64 N.next]] w (EncEnd w N) := by
  cases hl : N.leaf with
  | true => exact rencode_leaf h hf hl
  | false => exact rencode_inner h hf hl
set_option maxHeartbeats 400000 in
theorem lfit_any {w : World} {N : Nd} {vk vv vi : Value} (h : NdAt w N vk vv vi) (hf : Fits N) :
    Calls Try.prog 12 #[.agg #[.bool N.leaf, vk, vv, vi, .int .i64 N.next]] w fun e w' => e = .returned (.bool N.sound) ∧ Below w.heap.size w w' := by
  have HT : Hid (∀ W, Below w.heap.size w W → Calls Try.prog 17 #[.agg #[.bool N.leaf, vk, vv, vi, .int .i64 N.next]] W fun e w' => ∃ uk uv, e = .returned (.agg #[.bool N.leaf, uk, uv, vi, .int .i64 N.next]) ∧ Below W.heap.size W w' ∧ RdAt w' N uk uv vi) := fun W hW => to_any (h.belowW hW) hf
  have HE : Hid (∀ (W : World) (uk uv : Value), RdAt W N uk uv vi → Calls Try.prog 18 #[.agg #[.bool N.leaf, uk, uv, vi, .int .i64 N.next]] W fun e w' => ∃ v n, e = .returned (.tuple #[v, .int .i64 n]) ∧ Below W.heap.size W w' ∧ (n = 1 ∧ N.sound = false ∨ n ≠ 1 ∧ N.sound = true)) := fun W uk uv hW => (rencode_any hW hf).mono (fun e w' hE => by
    rcases hE.out with ⟨h1, rfl⟩ | ⟨h1, _, rfl⟩ | ⟨h1, _, v, rfl, _⟩
    · exact ⟨_, _, rfl, hE.below, .inl ⟨rfl, h1⟩⟩
    · exact ⟨_, _, rfl, hE.below, .inr ⟨by decide, h1⟩⟩
    · exact ⟨_, _, rfl, hE.below, .inr ⟨by decide, h1⟩⟩)
  have HB0 : Hid (Below w.heap.size w (w.alloc (.cells #[.bool N.leaf, vk, vv, vi, .int .i64 N.next] 26))) := (Below.refl _ _).alloc (Nat.le_refl _) _
  obtain ⟨ak, ck, rfl, _, _⟩ := h.keys.len
  obtain ⟨av, cv, rfl, _, _⟩ := h.vals.len
  obtain ⟨ai, ci, rfl, _, _⟩ := h.kids.len
  have HTW := hide (HT.out _ HB0.out)
  clear h hf HT
  go_enter Try.func12, Try.ntmps12
  go_wp2_with fail
  refine HTW.out.mono ?_
  rintro e W1 ⟨uk, uv, rfl, hb1, hr1⟩
  have HEW := hide (HE.out W1 uk uv hr1)
  have HB1 := hide (HB0.out.trans (hb1.mono HB0.out.size))
  clear hb1 hr1
  go_wp2_with fail
  refine HEW.out.mono ?_
  rintro e W2 ⟨v2, n2, rfl, hb2, hn2⟩
  have HB2 := hide (HB1.out.trans (hb2.mono HB1.out.size))
  have HQ : Hid ((n2 != 1) = N.sound) := by
    rcases hn2 with ⟨rfl, h⟩ | ⟨h0, h⟩
    · rw [Hid, h]; rfl
    · rw [Hid, h]; simp [h0]
  clear hb2 hn2
  go_wp2
  go_ret
  exact ⟨by rw [← HQ.out]; rfl, HB2.out⟩
/-- A node in its box. -/
structure NB (W : World) (b : Nat) (N : Nd) (vk vv vi : Value) : Prop where
  box : Box 26 W b (.bool N.leaf) vk vv vi (.int .i64 N.next)
  at' : NdAt W N vk vv vi
theorem NB.belowW {W W' : World} {b : Nat} {N : Nd} {vk vv vi : Value} (h : NB W b N vk vv vi) (hb : Below W.heap.size W W') : NB W' b N vk vv vi := ⟨h.box.belowW hb, h.at'.belowW hb⟩
/-- Two nodes told, each put into a new box. -/
theorem nb_two {W : World} {A B : Nd} {a1 a2 a3 b1 b2 b3 : Value} (hA : NdAt W A a1 a2 a3) (hB : NdAt W B b1 b2 b3) :
    Below W.heap.size W ((W.alloc (.cells #[.bool A.leaf, a1, a2, a3, .int .i64 A.next] 26)).alloc (.cells #[.bool B.leaf, b1, b2, b3, .int .i64 B.next] 26)) ∧
    NB ((W.alloc (.cells #[.bool A.leaf, a1, a2, a3, .int .i64 A.next] 26)).alloc (.cells #[.bool B.leaf, b1, b2, b3, .int .i64 B.next] 26)) W.heap.size A a1 a2 a3 ∧
    NB ((W.alloc (.cells #[.bool A.leaf, a1, a2, a3, .int .i64 A.next] 26)).alloc (.cells #[.bool B.leaf, b1, b2, b3, .int .i64 B.next] 26)) (W.heap.size + 1) B b1 b2 b3 := by
  have h2 := (Below.refl W.heap.size W).alloc (Nat.le_refl _) (.cells #[.bool A.leaf, a1, a2, a3, .int .i64 A.next] 26)
  have h3 := h2.alloc h2.size (.cells #[.bool B.leaf, b1, b2, b3, .int .i64 B.next] 26)
  have hz := Box.new (t := 26) (W.alloc (.cells #[.bool A.leaf, a1, a2, a3, .int .i64 A.next] 26)) (.bool B.leaf) b1 b2 b3 (.int .i64 B.next)
  rw [show (W.alloc (.cells #[.bool A.leaf, a1, a2, a3, .int .i64 A.next] 26)).heap.size = W.heap.size + 1 by simp] at hz
  exact ⟨h3, ⟨(Box.new (t := 26) W (.bool A.leaf) a1 a2 a3 (.int .i64 A.next)).alloc _, hA.belowW h3⟩, ⟨hz, hB.belowW h3⟩⟩
/-! ### Leaves as lists -/
structure Lf (N : Nd) : Prop where
  lf : N.leaf = true
  vl : N.vals.length = N.keys.length
  kd : N.kids = []
theorem lf_of {N : Nd} (hl : N.leaf = true) (hm : N.matched = true) : Lf N := by
  simp [Nd.matched, hl] at hm
  exact ⟨hl, hm.1, hm.2⟩
theorem Lf.mat {N : Nd} (h : Lf N) : N.matched = true := by simp [Nd.matched, h.lf, h.vl, h.kd]
theorem left_eq {N : Nd} (h : Lf N) : N.left = ⟨true, N.keys.take N.half, N.vals.take N.half, [], 0⟩ := by unfold Nd.left; rw [h.lf]; rfl
theorem right_eq {N : Nd} (h : Lf N) : N.right = ⟨true, N.keys.drop N.half, N.vals.drop N.half, [], N.next⟩ := by unfold Nd.right; rw [h.lf]; rfl
theorem Lf.left {N : Nd} (h : Lf N) : Lf N.left := by
  rw [left_eq h]
  exact ⟨rfl, by simp [h.vl], rfl⟩
theorem Lf.right {N : Nd} (h : Lf N) : Lf N.right := by
  rw [right_eq h]
  exact ⟨rfl, by simp [h.vl], rfl⟩
theorem half_le (N : Nd) : N.half ≤ N.keys.length := Nat.div_le_self _ _
theorem left_len {N : Nd} (h : Lf N) : N.left.keys.length = N.half := by rw [left_eq h]; simp [half_le]
theorem right_len {N : Nd} (h : Lf N) : N.right.keys.length = N.keys.length - N.half := by rw [right_eq h]; simp
theorem merge_halves {N : Nd} (h : Lf N) (k : List UInt8) : mergeN N.left k N.right = N := by
  rw [left_eq h, right_eq h]
  unfold mergeN
  obtain ⟨lf, K, V, I, x⟩ := N
  have h1 := h.lf
  have h2 := h.kd
  simp only at h1 h2
  subst h1 h2
  simp
theorem merge_assoc {A B C : Nd} (hA : Lf A) (hB : Lf B) (hC : Lf C) (k m : List UInt8) : mergeN (mergeN A k B) m C = mergeN A k (mergeN B m C) := by
  unfold mergeN
  simp [hA.lf, hB.lf, hA.kd, hB.kd, hC.kd]
theorem Lf.merge {A B : Nd} (hA : Lf A) (hB : Lf B) (k : List UInt8) : Lf (mergeN A k B) := by
  refine ⟨hA.lf, ?_, ?_⟩
  · unfold mergeN
    simp [hA.lf, hA.vl, hB.vl]
  · unfold mergeN
    simp [hA.kd, hB.kd]
theorem rises {N : Nd} (h : Sd N) {i j : Nat} (hij : i < j) (hj : j < N.keys.length) : blt (N.keys.getD i []) (N.keys.getD j []) = true := by
  obtain ⟨d, rfl⟩ : ∃ d, j = i + 1 + d := ⟨j - i - 1, by omega⟩
  induction d with
  | zero => exact h.ris (i + 1) (by omega) hj
  | succ d ih => exact blt_trans (ih (by omega) (by omega)) (h.ris (i + 1 + (d + 1)) (by omega) hj)
theorem getD_drop (l : List (List UInt8)) (n i : Nat) : (l.drop n).getD i [] = l.getD (n + i) [] := by simp
theorem getD_take (l : List (List UInt8)) (n i : Nat) (h : i < n) : (l.take n).getD i [] = l.getD i [] := by simp [List.getElem?_take, h]
theorem fits_left {N : Nd} (h : Fits N) (hl : Lf N) : Fits N.left := by rw [left_eq hl]; exact fits_part h true N.half N.half 0 [] 0 _ _ (.inl rfl) (.inl rfl) (by simp)
theorem fits_right {N : Nd} (h : Fits N) (hl : Lf N) : Fits N.right := by rw [right_eq hl]; exact fits_part h true N.half N.half 0 [] N.next _ _ (.inr rfl) (.inr rfl) (by simp)
end Go.Proofs.Ytjcobejaldfibaa
