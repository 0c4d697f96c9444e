/- For every three ints the law LockOrder returns true and leaves its arguments as they were (no condition beyond the form's own reach): the row 'Rows.LockOrderSaid'. -/
import Derived.Test.YtffjdjbjkjefoaaAwk
import Derived.ProofKit
import Derived.OpenShut
import Derived.Below
namespace Go.Proofs.Ytffjdjbjkjefoaa.lockOrder
open Go.ChangeShapes Go.WideShapes Go.ChangeAt Go.RowKit
set_option linter.unusedVariables false
set_option linter.unusedSimpArgs false

theorem i64_and3 (n : Int) : bits .and .i64 n 3 = n % 4 := by
  have h3 : (BitVec.ofInt 64 3).toNat = 2 ^ 2 - 1 := by decide
  have key : (BitVec.ofInt 64 n &&& BitVec.ofInt 64 3).toNat = (n % ((2 ^ 64 : Nat) : Int)).toNat % 2 ^ 2 := by
    rw [BitVec.toNat_and, BitVec.toNat_ofInt, h3, Nat.and_two_pow_sub_one_eq_mod]
  show IntKind.i64.wrap ((BitVec.ofInt 64 n &&& BitVec.ofInt 64 3).toNat : Nat) = n % 4
  rw [key, IntKind.wrap_i64]
  omega
theorem run_and3 (n : Int) (w : World) : (binOp .and 3 (.int .i64 n) (.int .i64 3)).run Try.prog w = .ok (.int .i64 (n % 4)) w := by
  have hu := Try.underlying3
  rw [← i64_and3]
  simp [go_sem, hu, Op.intBits, bits]
structure Ord (a b c : Int) : Prop where
  p1 : fits a b = fits b a
  p2 : join a b = join b a
  p3 : join (join a b) a = join a b
  p4 : join a a = a
  p5 : join (join a b) c = join a (join b c)
  p6 : fits (join a b) c = true → fits a c = true ∧ fits b c = true
  p7 : fits a 5 = false
  p8 : join a 5 = 5
theorem ord {a b c : Int} (ha : 1 ≤ a ∧ a ≤ 4) (hb : 1 ≤ b ∧ b ≤ 4) (hc : 1 ≤ c ∧ c ≤ 4) : Ord a b c := by
  have ha' : a = 1 ∨ a = 2 ∨ a = 3 ∨ a = 4 := by omega
  have hb' : b = 1 ∨ b = 2 ∨ b = 3 ∨ b = 4 := by omega
  have hc' : c = 1 ∨ c = 2 ∨ c = 3 ∨ c = 4 := by omega
  rcases ha' with rfl | rfl | rfl | rfl <;> rcases hb' with rfl | rfl | rfl | rfl <;> rcases hc' with rfl | rfl | rfl | rfl <;> exact ⟨by decide, by decide, by decide, by decide, by decide, by decide, by decide, by decide⟩
theorem bt {b : Nat} {w w1 w2 : World} (h : Below b w w1) (hb : b ≤ w.heap.size) (k : Below w1.heap.size w1 w2) : Below b w w2 := h.trans (k.mono (Nat.le_trans hb h.size))

set_option maxHeartbeats 4000000 in
set_option maxRecDepth 100000 in
theorem walk (a b c : Int) (w : World) : Calls Try.prog 7 #[.int .i64 a, .int .i64 b, .int .i64 c] w fun e w' => e = .returned (.bool true) ∧ Below w.heap.size w w' := by
  have HF : Hid (∀ a b w, Calls Try.prog 15 #[.int .i64 a, .int .i64 b] w fun e w' => e = .returned (.bool (fits a b)) ∧ Below w.heap.size w w') := fits_any
  have HJ : Hid (∀ a b w, Calls Try.prog 17 #[.int .i64 a, .int .i64 b] w fun e w' => e = .returned (.int .i64 (join a b)) ∧ Below w.heap.size w w') := join_any
  go_enter Try.func7, Try.ntmps7
  go_upto_region 2 with fail
  generalize hX : wrap64 (bits BinOp.and IntKind.i64 a 3 + 1) = X
  generalize hY : wrap64 (bits BinOp.and IntKind.i64 b 3 + 1) = Y
  generalize hZ : wrap64 (bits BinOp.and IntKind.i64 c 3 + 1) = Z
  have bX : 1 ≤ X ∧ X ≤ 4 := by rw [i64_and3] at hX; unfold wrap64 at hX; omega
  have bY : 1 ≤ Y ∧ Y ≤ 4 := by rw [i64_and3] at hY; unfold wrap64 at hY; omega
  have bZ : 1 ≤ Z ∧ Z ≤ 4 := by rw [i64_and3] at hZ; unfold wrap64 at hZ; omega
  have O := ord bX bY bZ
  clear hX hY hZ bX bY bZ
  obtain ⟨p1, p2, p3, p4, p5, p6, p7, p8⟩ := O
  obtain ⟨J, eJ⟩ : ∃ J, join X Y = J := ⟨_, rfl⟩
  obtain ⟨F, eF⟩ : ∃ F, fits X Y = F := ⟨_, rfl⟩
  obtain ⟨K, eK⟩ : ∃ K, join J Z = K := ⟨_, rfl⟩
  obtain ⟨L, eL⟩ : ∃ L, join Y Z = L := ⟨_, rfl⟩
  have f1 : Hid (fits X Y = F) := eF
  have f2 : Hid (fits Y X = F) := p1.symm.trans eF
  have f3 : Hid (fits X 5 = false) := p7
  have j1 : Hid (join X Y = J) := eJ
  have j2 : Hid (join Y X = J) := p2.symm.trans eJ
  have j3 : Hid (join J X = J) := by rw [eJ] at p3; exact p3
  have j4 : Hid (join X X = X) := p4
  have j5 : Hid (join J Z = K) := eK
  have j6 : Hid (join Y Z = L) := eL
  have j7 : Hid (join X L = K) := by rw [eJ, eL, eK] at p5; exact p5.symm
  have j8 : Hid (join X 5 = 5) := p8
  have HA : Hid (∀ w, Calls Try.prog 14 #[] w fun e w' => e = .returned (.bool true) ∧ Below w.heap.size w w') := awake_any
  rw [eJ] at p6
  have P6 := hide p6
  have HB := hide (Below.refl w.heap.size w)
  clear eF eL eK eJ p1 p2 p3 p4 p5 p6 p7 p8
  go_upto_region 5 with (first
    | (go_at_call 15; refine (HF.out _ _ _).mono ?_; rintro e w1 ⟨rfl, hb1⟩; (first | rw [f1.out] | rw [f2.out]); replace HB := hide (bt HB.out (Nat.le_refl _) hb1); clear hb1)
    | (go_at_call 17; refine (HJ.out _ _ _).mono ?_; rintro e w1 ⟨rfl, hb1⟩; (first | rw [j1.out] | rw [j2.out] | rw [j3.out] | rw [j4.out] | rw [j5.out] | rw [j6.out] | rw [j7.out]); replace HB := hide (bt HB.out (Nat.le_refl _) hb1); clear hb1))
  clear f1 f2 j1 j2 j3 j4 j5 j6 j7
  cases hG : fits J Z with
  | true =>
    have G1 := hide hG
    have G2 := hide (P6.out hG).1
    have G3 := hide (P6.out hG).2
    clear hG
    go_wp2_with (first
      | (go_at_call 15; refine (HF.out _ _ _).mono ?_; rintro e w1 ⟨rfl, hb1⟩; (first | rw [G1.out] | rw [G2.out] | rw [G3.out] | rw [f3.out]); replace HB := hide (bt HB.out (Nat.le_refl _) hb1); clear hb1)
      | (go_at_call 17; refine (HJ.out _ _ _).mono ?_; rintro e w1 ⟨rfl, hb1⟩; rw [j8.out]; replace HB := hide (bt HB.out (Nat.le_refl _) hb1); clear hb1)
      | (go_at_call 14; refine (HA.out _).mono ?_; rintro e w1 ⟨rfl, hb1⟩; replace HB := hide (bt HB.out (Nat.le_refl _) hb1); clear hb1))
    go_ret
    exact ⟨rfl, HB.out⟩
  | false =>
    have G1 := hide hG
    clear hG
    go_wp2_with (first
      | (go_at_call 15; refine (HF.out _ _ _).mono ?_; rintro e w1 ⟨rfl, hb1⟩; (first | rw [G1.out] | rw [f3.out]); replace HB := hide (bt HB.out (Nat.le_refl _) hb1); clear hb1)
      | (go_at_call 17; refine (HJ.out _ _ _).mono ?_; rintro e w1 ⟨rfl, hb1⟩; rw [j8.out]; replace HB := hide (bt HB.out (Nat.le_refl _) hb1); clear hb1)
      | (go_at_call 14; refine (HA.out _).mono ?_; rintro e w1 ⟨rfl, hb1⟩; replace HB := hide (bt HB.out (Nat.le_refl _) hb1); clear hb1))
    go_ret
    exact ⟨rfl, HB.out⟩

theorem own : ownKnob Try.prog.godebug = none := by kernel_rfl

set_option maxRecDepth 100000 in
theorem lifted (os : Os) (started : os.Started) (H : Type) (enc : TypeId × Value → H) :
    ReturnsInHanded {} Try.checked os 7 .any (Rows.lockOrderSpec.pre6 enc Try.prog Try.f7 Rows.lockOrderRow.domain false) (Rows.lockOrderSpec.post enc Try.prog Try.f7 false true false false) := by
  refine returnsInHanded_of_change (C := Try.checked) own started (by kernel_rfl) Try.func7
    (ChangeSpec.witness6 (enc := enc) (C := Try.checked) false ⟨#[], #[.int .i64 0, .int .i64 0, .int .i64 0], []⟩ 8 (by kernel_rfl) (by kernel_rfl) (by kernel_rfl) (by kernel_rfl)) ?_
  intro W base args ds gs before hval0 hW hcnd _
  have hval : ∀ (j : Nat) t v, Try.f7.params[j]? = some t → args[j]? = some v → Value.okWide Try.prog W .any base t v := hval0
  have hW' := hW
  obtain ⟨p, q, hA0, hV, rfl, hfz, hnd⟩ := hW
  have hA : DataW.TrodAll enc Try.prog W 0 (fun _ => true) true Try.f7.params.toList args.toList ds p := hA0
  rw [Try.params7] at hA hval
  obtain ⟨v0, vs0, d0, ds0, p0, q0, hargs, rfl, rfl, h0, r0⟩ := trodAll_cons hA
  obtain ⟨v1, vs1, d1, ds1, p1, q1, rfl, rfl, rfl, h1, r1⟩ := trodAll_cons r0
  obtain ⟨v2, vs2, d2, ds2, p2, q2, rfl, rfl, rfl, h2, r2⟩ := trodAll_cons r1
  obtain ⟨rfl, rfl, rfl⟩ := trodAll_nil r2
  obtain rfl : args = #[v0, v1, v2] := by cases args; simp_all
  obtain ⟨rfl, rfl⟩ := trodVars_none hV
  obtain ⟨x0, rfl, rfl, rfl, wx0⟩ := open_int Try.underlying3 (hval 0 3 v0 rfl rfl) h0
  obtain ⟨x1, rfl, rfl, rfl, wx1⟩ := open_int Try.underlying3 (hval 1 3 v1 rfl rfl) h1
  obtain ⟨x2, rfl, rfl, rfl, wx2⟩ := open_int Try.underlying3 (hval 2 3 v2 rfl rfl) h2
  clear hA0 hval0
  refine (walk x0 x1 x2 W).mono fun e W' ⟨he, bel⟩ => ?_
  subst he
  exact ⟨_, rfl, _, _, _, [], _, [], hW', trodAll_mk1 (shut_bool Try.underlying4 _), (trodAll_cons_mk (shut_int Try.underlying3 wx0) (trodAll_cons_mk (shut_int Try.underlying3 wx1) (trodAll_cons_mk (shut_int Try.underlying3 wx2) trodAll_mk0))), rfl, bel.frame _, fun h => by cases h⟩

theorem over : Rows.lockOrderRow.holds Try.pinned (OpenSpec.ofChange Rows.lockOrderSpec) :=
  OpenClaim.holds_of_wide 7 Try.f7 rfl rfl rfl rfl rfl rfl rfl ⟨rfl, rfl, rfl, rfl, rfl⟩ rfl rfl rfl rfl rfl (by kernel_rfl) Try.func7 (by kernel_rfl)
    (of_decide_eq_true (by kernel_rfl)) (by unfold Func.isWrapper; first | (rw [if_pos (by decide +kernel)]; kernel_rfl) | (rw [if_neg (by decide +kernel)]; exact ⟨rfl, rfl⟩))
    (fun os started H enc _ => lifted os started H enc)
end Go.Proofs.Ytffjdjbjkjefoaa.lockOrder
namespace Go.Proofs.Ytffjdjbjkjefoaa
theorem lockOrder_holds : Rows.LockOrderSaid := lockOrder.over
end Go.Proofs.Ytffjdjbjkjefoaa
