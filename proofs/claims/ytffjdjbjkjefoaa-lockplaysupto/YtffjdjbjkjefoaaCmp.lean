/- Names in their order: cmp.Compare at strings; wants by their names. -/
import Derived.Test.YtffjdjbjkjefoaaTab
import Derived.Shelf.GgSortFunc.RowK
import Derived.Sort.Grow
namespace Go.Proofs.Ytffjdjbjkjefoaa
open Go.RowKit Go.WideAt
set_option linter.unusedVariables false
set_option linter.unusedSimpArgs false

/-! ### Bytes in their order -/
abbrev blt (a b : List UInt8) : Bool := Op.bytesLess a b
theorem blt_irrefl : ∀ a, blt a a = false
  | [] => rfl
  | x :: a => by
    have := blt_irrefl a
    simp only [blt] at this
    simp [blt, Op.bytesLess, this]
theorem blt_trans : ∀ {a b c}, blt a b = true → blt b c = true → blt a c = true
  | a, [], c, h, k => by cases a <;> simp [blt, Op.bytesLess] at h
  | a, _ :: _, [], h, k => by simp [blt, Op.bytesLess] at k
  | [], y :: b, z :: c, h, k => rfl
  | x :: a, y :: b, z :: c, h, k => by
    simp only [blt, Op.bytesLess, Bool.or_eq_true, Bool.and_eq_true, decide_eq_true_eq, beq_iff_eq] at h k ⊢
    rcases h with h | ⟨rfl, h⟩
    · rcases k with k | ⟨rfl, k⟩
      · exact .inl (UInt8.lt_trans h k)
      · exact .inl h
    · rcases k with k | ⟨rfl, k⟩
      · exact .inl k
      · exact .inr ⟨rfl, blt_trans h k⟩
theorem blt_asymm {a b : List UInt8} (h : blt a b = true) : blt b a = false := by
  cases hb : blt b a with
  | false => rfl
  | true => have := blt_trans h hb; rw [blt_irrefl] at this; cases this
theorem blt_total : ∀ {a b : List UInt8}, blt a b = false → blt b a = false → a = b
  | [], [], _, _ => rfl
  | [], _ :: _, h, _ => by simp [blt, Op.bytesLess] at h
  | _ :: _, [], _, h => by simp [blt, Op.bytesLess] at h
  | x :: a, y :: b, h, k => by
    simp only [blt, Op.bytesLess, Bool.or_eq_false_iff, Bool.and_eq_false_iff, decide_eq_false_iff_not, beq_eq_false_iff_ne] at h k
    have e : x = y := UInt8.le_antisymm (UInt8.not_lt.1 k.1) (UInt8.not_lt.1 h.1)
    subst e
    have h2 := h.2.resolve_left (fun h => h rfl)
    have k2 := k.2.resolve_left (fun h => h rfl)
    rw [blt_total h2 k2]
theorem toList_strOf (bs : List UInt8) : (strOf bs).toList = bs := by
  rw [ByteArray.toList_eq]
  simp [strOf]
def cmpS (a b : List UInt8) : Int := if blt a b = true then -1 else if blt b a = true then 1 else 0
theorem nan_any (s : List UInt8) (w : World) : Calls Try.prog 46 #[scell s] w fun e w' => e = .returned (.bool false) ∧ w' = w := by
  go_enter Try.func46, Try.ntmps46
  go_wp2
  go_ret
  exact ⟨by simp, rfl⟩
theorem gtr_eq (a b : List UInt8) : (!(Op.bytesLess (strOf a).toList (strOf b).toList || (strOf a).toList == (strOf b).toList)) = blt b a := by
  rw [toList_strOf, toList_strOf]
  cases h : Op.bytesLess a b with
  | true => simp [blt_asymm (a := a) (b := b) h]
  | false =>
    by_cases e : a = b
    · subst e; simp [blt_irrefl]
    · cases h2 : blt b a with
      | true => simp [e]
      | false => exact absurd (blt_total h h2) e
set_option maxHeartbeats 1000000 in
theorem cmpS_any (a b : List UInt8) (w : World) : Calls Try.prog 33 #[scell a, scell b] w fun e w' => e = .returned (.int .i64 (cmpS a b)) ∧ w' = w := by
  have HNa := hide (nan_any a)
  have HNb := hide (nan_any b)
  have hg : ∀ w, (binOp .gtr 9 (scell a) (scell b)).run Try.prog w = .ok (.bool (blt b a)) w := fun w => by
    have := gtr_eq a b
    unfold scell
    simp only [binOp_string_gtr, this]
    rfl
  have hl : ∀ w, (binOp .lss 9 (scell a) (scell b)).run Try.prog w = .ok (.bool (blt a b)) w := fun w => by
    unfold scell
    simp only [binOp_string_lss, toList_strOf]
    rfl
  have HC : Hid (cmpS a b = if blt a b = true then -1 else if blt b a = true then 1 else 0) := rfl
  generalize cmpS a b = r at *
  generalize blt a b = p at *
  generalize blt b a = q at *
  generalize scell a = va at *
  generalize scell b = vb at *
  go_enter Try.func33, Try.ntmps33
  have hl' := hl w
  have hg' := hg w
  clear hl hg
  cases p with
  | true =>
    go_wp2_with (go_at_call 46; (first | refine (HNa.out _).mono ?_ | refine (HNb.out _).mono ?_); rintro e w1 ⟨rfl, hw⟩; have hw := hw.symm; subst hw)
    go_ret
    exact ⟨by rw [HC.out]; rfl, rfl⟩
  | false =>
    cases q with
    | true =>
      go_wp2_with (go_at_call 46; (first | refine (HNa.out _).mono ?_ | refine (HNb.out _).mono ?_); rintro e w1 ⟨rfl, hw⟩; have hw := hw.symm; subst hw)
      go_ret
      exact ⟨by rw [HC.out]; rfl, rfl⟩
    | false =>
      go_wp2_with (go_at_call 46; (first | refine (HNa.out _).mono ?_ | refine (HNb.out _).mono ?_); rintro e w1 ⟨rfl, hw⟩; have hw := hw.symm; subst hw)
      go_ret
      exact ⟨by rw [HC.out]; rfl, rfl⟩
abbrev encW (x : List UInt8 × Int) : List Value := [scell x.1, .int .i64 x.2]
theorem lessW_any (x y : List UInt8 × Int) (W : World) : Calls Try.prog 32 #[.agg #[scell x.1, .int .i64 x.2], .agg #[scell y.1, .int .i64 y.2]] W fun e w' => e = .returned (.int .i64 (cmpS x.1 y.1)) ∧ ∃ q os', w' = Go.Sort.grow (W.drewN q) os' := by
  have hcon := fun W' => cmpS_any x.1 y.1 W'
  generalize cmpS x.1 y.1 = r at hcon ⊢
  go_enter Try.func32, Try.ntmps32
  go_wp2_with (go_at_call 33; refine (hcon _).mono ?_; rintro e w' ⟨rfl, rfl⟩)
  go_ret
  exact ⟨rfl, 0, _, by rw [Go.Sort.alloc_eq_grow, Go.Sort.alloc_eq_grow, Go.Sort.grow_grow]; rfl⟩
end Go.Proofs.Ytffjdjbjkjefoaa
