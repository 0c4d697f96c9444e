/- What one would come to hold: the document's way and the program's. -/
import Derived.Test.YtffjdjbjkjefoaaTbo
namespace Go.Proofs.Ytffjdjbjkjefoaa
open Go.RowKit Go.WideAt
set_option linter.unusedVariables false
set_option linter.unusedSimpArgs false

def In6 (x : Int) : Prop := 0 ≤ x ∧ x ≤ 5
theorem in6_fin {x : Int} (h : In6 x) : ∃ i : Fin 6, x = (i.val : Int) := ⟨⟨x.toNat, by have := h.1; have := h.2; omega⟩, by show x = (x.toNat : Int); have := h.1; omega⟩
theorem join_in_fin : ∀ a b : Fin 6, 0 ≤ join (a.val : Int) (b.val : Int) ∧ join (a.val : Int) (b.val : Int) ≤ 5 := by decide +kernel
theorem join_as_fin : ∀ a b c : Fin 6, join (join (a.val : Int) (b.val : Int)) (c.val : Int) = join (a.val : Int) (join (b.val : Int) (c.val : Int)) := by decide +kernel
theorem join_zero_fin : ∀ a : Fin 6, join (a.val : Int) 0 = (a.val : Int) := by decide +kernel
theorem join_self_fin : ∀ a b : Fin 6, join (a.val : Int) (join (a.val : Int) (b.val : Int)) = join (a.val : Int) (b.val : Int) := by decide +kernel
theorem join_in {a b : Int} (ha : In6 a) (hb : In6 b) : In6 (join a b) := by
  obtain ⟨i, rfl⟩ := in6_fin ha
  obtain ⟨j, rfl⟩ := in6_fin hb
  exact join_in_fin i j
theorem join_as {a b c : Int} (ha : In6 a) (hb : In6 b) (hc : In6 c) : join (join a b) c = join a (join b c) := by
  obtain ⟨i, rfl⟩ := in6_fin ha
  obtain ⟨j, rfl⟩ := in6_fin hb
  obtain ⟨k, rfl⟩ := in6_fin hc
  exact join_as_fin i j k
theorem join_zero {a : Int} (ha : In6 a) : join a 0 = a := by
  obtain ⟨i, rfl⟩ := in6_fin ha
  exact join_zero_fin i
theorem join_self {a b : Int} (ha : In6 a) (hb : In6 b) : join a (join a b) = join a b := by
  obtain ⟨i, rfl⟩ := in6_fin ha
  obtain ⟨j, rfl⟩ := in6_fin hb
  exact join_self_fin i j
theorem mode_in6 {a : Int} (h : isMode a = true) : In6 a := by
  rcases isMode_known h with rfl | rfl | rfl | rfl | rfl <;> exact ⟨by omega, by omega⟩
/-- Behind any of the wants. -/
structure GoalIs (mm : List UInt8 → Option Int) (h : Int) (l : List Wn) (s : List UInt8) : Prop where
  no : askF l s = false → grownF mm l s = none ∧ goalF h l s = h
  yes : askF l s = true → grownF mm l s = some (goalF h l s) ∧ join h (goalF h l s) = goalF h l s
  six : In6 (goalF h l s)
theorem goal_snoc (h : Int) (l : List Wn) (x : Wn) (s : List UInt8) : goalF h (l ++ [x]) s = goal1 s (goalF h l s) x := by unfold goalF; rw [List.foldl_append]; rfl
theorem askF_snoc (l : List Wn) (x : Wn) (s : List UInt8) : askF (l ++ [x]) s = (askF l s || (decide (x.1 = s) && isMode x.2)) := by unfold askF; rw [List.any_append]; simp
theorem goal_is {mm : List UInt8 → Option Int} {s : List UInt8} (h6 : In6 ((mm s).getD 0)) : ∀ n (l : List Wn), l.length = n → GoalIs mm ((mm s).getD 0) l s
  | 0, l, hl => by
    have : l = [] := List.eq_nil_of_length_eq_zero hl
    subst this
    exact ⟨fun _ => ⟨rfl, rfl⟩, (fun e => by cases e), h6⟩
  | n + 1, l, hl => by
    obtain ⟨l0, x, rfl⟩ : ∃ l0 x, l = l0 ++ [x] := by
      rcases List.eq_nil_or_concat l with e | ⟨l0, x, e⟩
      · rw [e] at hl; cases hl
      · exact ⟨l0, x, by simpa using e⟩
    have ih := goal_is h6 n l0 (by simpa using hl)
    generalize hh : (mm s).getD 0 = h at *
    obtain ⟨t, md⟩ := x
    by_cases hx : t = s ∧ isMode md = true
    · obtain ⟨rfl, hmd⟩ := hx
      have hm6 := mode_in6 hmd
      have eg : goalF h (l0 ++ [(t, md)]) t = join (goalF h l0 t) md := by rw [goal_snoc]; unfold goal1; rw [if_pos ⟨rfl, hmd⟩]
      have ew : grownF mm (l0 ++ [(t, md)]) t = some (join (join h ((grownF mm l0 t).getD 0)) md) := by
        rw [grownF_snoc]
        unfold grow1
        rw [if_pos hmd]
        simp [hh]
      have hq : join h ((grownF mm l0 t).getD 0) = goalF h l0 t ∧ join h (goalF h l0 t) = goalF h l0 t := by
        cases ha : askF l0 t with
        | false =>
          obtain ⟨e1, e2⟩ := ih.no ha
          rw [e1, e2]
          refine ⟨join_zero h6, ?_⟩
          have := join_self h6 (b := 0) ⟨by omega, by omega⟩
          rwa [join_zero h6] at this
        | true =>
          obtain ⟨e1, e2⟩ := ih.yes ha
          rw [e1]
          exact ⟨e2, e2⟩
      refine ⟨fun e => ?_, fun _ => ⟨by rw [ew, hq.1, eg], by rw [eg, ← join_as h6 ih.six hm6, hq.2]⟩, by rw [eg]; exact join_in ih.six hm6⟩
      rw [askF_snoc] at e
      simp [hmd] at e
    · have eg : goalF h (l0 ++ [(t, md)]) s = goalF h l0 s := by rw [goal_snoc]; unfold goal1; rw [if_neg hx]
      have ea : askF (l0 ++ [(t, md)]) s = askF l0 s := by
        rw [askF_snoc]
        have : (decide (t = s) && isMode md) = false := by
          cases hmd : isMode md with
          | false => simp
          | true => simp only [Bool.and_true, decide_eq_false_iff_not]; exact fun e => hx ⟨e, hmd⟩
        simp [this]
      have ew : grownF mm (l0 ++ [(t, md)]) s = grownF mm l0 s := by
        rw [grownF_snoc]
        unfold grow1
        by_cases hmd : isMode md = true
        · rw [if_pos hmd]
          simp only
          rw [if_neg (fun e => hx ⟨e.symm, hmd⟩)]
        · rw [if_neg hmd]
      exact ⟨fun e => by rw [ea] at e; rw [ew, eg]; exact ih.no e, fun e => by rw [ea] at e; rw [ew, eg]; exact ih.yes e, by rw [eg]; exact ih.six⟩
/-- Whom the document's Ask tells are those that the program's tells. -/
theorem RaIs.against {hs : List Ht} {m : Held} {L : List Wn} {id : Int} {A : List Int} (ht : TbOf hs m) (hg : ∀ x s p, m x s = some p → isMode p = true) (h : RaIs (badB hs L id) hs A) : Against m (grownF (m id) L) id A :=
  ⟨h.up, fun x => by
    rw [h.iff]
    have h6 : ∀ s, In6 ((m id s).getD 0) := fun s => by
      cases hm : m id s with
      | none => exact ⟨Int.le_refl _, by show (0 : Int) ≤ 5; omega⟩
      | some p => exact mode_in6 (hg id s p hm)
    constructor
    · rintro ⟨⟨y, s, md⟩, hm, hb, rfl⟩
      unfold badB at hb
      simp only [Bool.and_eq_true, Bool.not_eq_true', bne_iff_ne] at hb
      obtain ⟨⟨b1, b2⟩, b3⟩ := hb
      rw [ht.mode] at b3
      exact ⟨s, b1, goalF ((m id s).getD 0) L s, md, ((goal_is (h6 s) _ L rfl).yes b2).1, (ht.iff _ _ _).2 hm, b3⟩
    · rintro ⟨s, hne, md, p, hgr, hm, hf⟩
      refine ⟨(x, s, p), (ht.iff _ _ _).1 hm, ?_, rfl⟩
      have hG := goal_is (h6 s) _ L rfl
      have ha : askF L s = true := by
        cases ha : askF L s with
        | true => rfl
        | false => rw [(hG.no ha).1] at hgr; cases hgr
      have e := (hG.yes ha).1
      rw [hgr] at e
      injection e with e
      unfold badB
      simp only [Bool.and_eq_true, Bool.not_eq_true', bne_iff_ne]
      rw [ht.mode, ← e]
      exact ⟨⟨hne, ha⟩, hf⟩⟩
end Go.Proofs.Ytffjdjbjkjefoaa
