/- What Take makes of the document's table, as a list. -/
import Derived.Test.YtffjdjbjkjefoaaTbg
namespace Go.Proofs.Ytffjdjbjkjefoaa
open Go.RowKit Go.WideAt
set_option linter.unusedVariables false
set_option linter.unusedSimpArgs false

theorem RhIs.hold {hs : List Ht} {m : Held} {s : List UInt8} {A : List Int} (ht : TbOf hs m) (h : RhIs hs s A) : HoldIs m s A :=
  ⟨h.up, fun x => by
    rw [h.iff]
    constructor
    · rintro ⟨⟨y, t, md⟩, hm, rfl, rfl⟩ e
      have := (ht.iff y t md).2 hm
      have e2 : m y t = none := e
      rw [e2] at this
      cases this
    · intro hne
      cases hm : m x s with
      | none => exact absurd hm hne
      | some md => exact ⟨(x, s, md), (ht.iff _ _ _).1 hm, rfl, rfl⟩⟩
theorem goal_six {a : Int} (ha : In6 a) (s : List UInt8) : ∀ (l : List Wn), In6 (goalF a l s) := fun l => by
  have : ∀ n (l : List Wn), l.length = n → In6 (goalF a l s) := by
    intro n
    induction n with
    | zero => intro l hl; rw [List.eq_nil_of_length_eq_zero hl]; exact ha
    | succ n ih =>
      intro l hl
      rcases List.eq_nil_or_concat l with e | ⟨l0, x, e⟩
      · rw [e] at hl; cases hl
      · have e : l = l0 ++ [x] := by simpa using e
        subst e
        have := ih l0 (by simpa using hl)
        rw [goal_snoc]
        unfold goal1
        by_cases hx : x.1 = s ∧ isMode x.2 = true
        · rw [if_pos hx]; exact join_in this (mode_in6 hx.2)
        · rw [if_neg hx]; exact this
  exact this _ l rfl
theorem six0 : In6 0 := ⟨by omega, by omega⟩
theorem goal_from {a : Int} (ha : In6 a) (s : List UInt8) (l : List Wn) : goalF a l s = join a (goalF 0 l s) := by
  have : ∀ n (l : List Wn), l.length = n → goalF a l s = join a (goalF 0 l s) := by
    intro n
    induction n with
    | zero => intro l hl; rw [List.eq_nil_of_length_eq_zero hl]; exact (join_zero ha).symm
    | succ n ih =>
      intro l hl
      rcases List.eq_nil_or_concat l with e | ⟨l0, x, e⟩
      · rw [e] at hl; cases hl
      · have e : l = l0 ++ [x] := by simpa using e
        subst e
        have := ih l0 (by simpa using hl)
        rw [goal_snoc, goal_snoc]
        unfold goal1
        by_cases hx : x.1 = s ∧ isMode x.2 = true
        · rw [if_pos hx, if_pos hx, this, join_as ha (goal_six six0 s l0) (mode_in6 hx.2)]
        · rw [if_neg hx, if_neg hx, this]
  exact this _ l rfl
theorem join_same {a : Int} (ha : In6 a) : join a a = a := by
  have := join_self ha six0
  rwa [join_zero ha] at this
theorem goal_twice {a : Int} (ha : In6 a) (s : List UInt8) (l : List Wn) : goalF (goalF a l s) l s = goalF a l s := by
  rw [goal_from (goal_six ha s l), goal_from ha, join_as ha (goal_six six0 s l) (goal_six six0 s l), join_same (goal_six six0 s l)]
/-- The list with that lock laid down: where the pair is, or at its end. -/
def PutL (hs : List Ht) (id : Int) (s : List UInt8) (md : Int) (hs' : List Ht) : Prop :=
  ((∀ h ∈ hs, ¬ (h.1 = id ∧ h.2.1 = s)) ∧ hs' = hs ++ [(id, s, md)]) ∨ ∃ k x, hs[k]? = some x ∧ (x.1 = id ∧ x.2.1 = s) ∧ hs' = hs.set k (id, s, md)
theorem PutL.len {hs hs' : List Ht} {id : Int} {s : List UInt8} {md : Int} (h : PutL hs id s md hs') : hs'.length ≤ hs.length + 1 := by
  rcases h with ⟨_, rfl⟩ | ⟨k, x, _, _, rfl⟩ <;> simp
theorem TbOf.put {hs hs' : List Ht} {m : Held} {id : Int} {s : List UInt8} {md : Int} (h : TbOf hs m) (hp : PutL hs id s md hs') : TbOf hs' (updH m id s md) := by
  rcases hp with ⟨hn, rfl⟩ | ⟨k, x, hx, ⟨h1, h2⟩, rfl⟩
  · refine ⟨List.pairwise_append.2 ⟨h.part, List.pairwise_singleton _ _, fun a ha b hb => ?_⟩, fun y t q => ?_⟩
    · rw [List.mem_singleton] at hb
      subst hb
      exact hn a ha
    · unfold updH
      rw [List.mem_append, List.mem_singleton]
      by_cases e : y = id ∧ t = s
      · rw [if_pos e]
        obtain ⟨rfl, rfl⟩ := e
        constructor
        · intro e2
          injection e2 with e2
          exact .inr (by rw [e2])
        · rintro (e2 | e2)
          · exact absurd ⟨rfl, rfl⟩ (hn _ e2)
          · injection e2 with _ e2
            injection e2 with _ e2
            rw [e2]
      · rw [if_neg e, h.iff]
        constructor
        · exact .inl
        · rintro (e2 | e2)
          · exact e2
          · injection e2 with e3 e2
            injection e2 with e4 e2
            exact absurd ⟨e3, e4⟩ e
  · obtain ⟨hk, ek⟩ := List.getElem?_eq_some_iff.1 hx
    have hpair : ∀ i (hi : i < hs.length), i ≠ k → ¬ ((hs[i]).1 = id ∧ (hs[i]).2.1 = s) := fun i hi hne e => by
      have hp := List.pairwise_iff_getElem.1 h.part
      rcases Nat.lt_or_gt_of_ne hne with hlt | hgt
      · exact hp i k hi hk hlt (by rw [ek]; exact ⟨e.1.trans h1.symm, e.2.trans h2.symm⟩)
      · exact hp k i hk hi hgt (by rw [ek]; exact ⟨h1.trans e.1.symm, h2.trans e.2.symm⟩)
    refine ⟨List.pairwise_iff_getElem.2 fun i j hi hj hij => ?_, fun y t q => ?_⟩
    · rw [List.length_set] at hi hj
      rw [List.getElem_set, List.getElem_set]
      by_cases ei : k = i
      · rw [if_pos ei, if_neg (by omega)]
        exact fun e => hpair j hj (by omega) ⟨e.1.symm, e.2.symm⟩
      · rw [if_neg ei]
        by_cases ej : k = j
        · rw [if_pos ej]
          exact fun e => hpair i hi (by omega) e
        · rw [if_neg ej]
          exact List.pairwise_iff_getElem.1 h.part i j hi hj hij
    · unfold updH
      rw [List.mem_iff_getElem]
      by_cases e : y = id ∧ t = s
      · rw [if_pos e]
        obtain ⟨rfl, rfl⟩ := e
        constructor
        · intro e2
          injection e2 with e2
          exact ⟨k, by rw [List.length_set]; exact hk, by rw [List.getElem_set, if_pos rfl, e2]⟩
        · rintro ⟨i, hi, e2⟩
          rw [List.getElem_set] at e2
          by_cases ei : k = i
          · rw [if_pos ei] at e2
            injection e2 with _ e2
            injection e2 with _ e2
            rw [e2]
          · rw [if_neg ei] at e2
            rw [List.length_set] at hi
            exact absurd (by rw [e2]; exact ⟨rfl, rfl⟩) (hpair i hi (by omega))
      · rw [if_neg e, h.iff, List.mem_iff_getElem]
        constructor
        · rintro ⟨i, hi, e2⟩
          refine ⟨i, by rw [List.length_set]; exact hi, ?_⟩
          rw [List.getElem_set, if_neg (fun ei => ?_)]
          · exact e2
          · subst ei
            rw [ek] at e2
            subst e2
            exact e ⟨h1, h2⟩
        · rintro ⟨i, hi, e2⟩
          rw [List.getElem_set] at e2
          by_cases ei : k = i
          · rw [if_pos ei] at e2
            injection e2 with e3 e2
            injection e2 with e4 e2
            exact absurd ⟨e3.symm, e4.symm⟩ e
          · rw [if_neg ei] at e2
            rw [List.length_set] at hi
            exact ⟨i, hi, e2⟩
/-- Who holds what when so many of the wants are laid down. -/
def midH (m : Held) (id : Int) (L : List Wn) (k : Nat) : Held := fun x s => if x = id ∧ askF (L.take k) s = true then some (goalF ((m id s).getD 0) L s) else m x s
theorem midH_zero (m : Held) (id : Int) (L : List Wn) : midH m id L 0 = m := by
  funext x s
  unfold midH
  rw [if_neg (fun e => by have := e.2; cases this)]
theorem midH_end {m : Held} {id : Int} {L : List Wn} (h6 : ∀ s, In6 ((m id s).getD 0)) : midH m id L L.length = heldN m id (grownF (m id) L) := by
  funext x s
  unfold midH heldN
  rw [List.take_length]
  have hG := goal_is (h6 s) _ L rfl
  by_cases e : x = id
  · subst e
    rw [if_pos rfl]
    cases ha : askF L s with
    | true => rw [if_pos ⟨rfl, rfl⟩, (hG.yes ha).1]; rfl
    | false => rw [if_neg (fun e => by cases e.2), (hG.no ha).1]; rfl
  · rw [if_neg (fun e2 => e e2.1), if_neg e]
theorem TbOf.mid_skip {hs : List Ht} {m : Held} {id : Int} {L : List Wn} {k : Nat} {x : Wn} (h : TbOf hs (midH m id L k)) (hx : L[k]? = some x) (hmd : isMode x.2 = false) : TbOf hs (midH m id L (k + 1)) := by
  have : midH m id L (k + 1) = midH m id L k := by
    funext y s
    unfold midH
    rw [askF_take hx, hmd]
    simp
  rw [this]
  exact h
theorem mid_goal {m : Held} {id : Int} {L : List Wn} {k : Nat} (h6 : ∀ s, In6 ((m id s).getD 0)) (s : List UInt8) : goalF ((midH m id L k id s).getD 0) L s = goalF ((m id s).getD 0) L s := by
  unfold midH
  by_cases e : askF (L.take k) s = true
  · rw [if_pos ⟨rfl, e⟩]
    exact goal_twice (h6 s) s L
  · rw [if_neg (fun e2 => e e2.2)]
theorem TbOf.mid_put {hs hs' : List Ht} {m : Held} {id : Int} {L : List Wn} {k : Nat} {x : Wn} (h6 : ∀ s, In6 ((m id s).getD 0)) (h : TbOf hs (midH m id L k)) (hx : L[k]? = some x) (hmd : isMode x.2 = true) (hp : PutL hs id x.1 (goalF (modeL hs id x.1) L x.1) hs') : TbOf hs' (midH m id L (k + 1)) := by
  have := h.put hp
  rw [h.mode, mid_goal h6] at this
  have e : updH (midH m id L k) id x.1 (goalF ((m id x.1).getD 0) L x.1) = midH m id L (k + 1) := by
    funext y s
    unfold updH
    by_cases e : y = id ∧ s = x.1
    · rw [if_pos e]
      obtain ⟨rfl, rfl⟩ := e
      unfold midH
      rw [askF_take hx, hmd]
      simp
    · rw [if_neg e]
      unfold midH
      rw [askF_take hx, hmd]
      by_cases e2 : y = id
      · have : x.1 ≠ s := fun e3 => e ⟨e2, e3.symm⟩
        simp [this]
      · simp [e2]
  rw [e] at this
  exact this
end Go.Proofs.Ytffjdjbjkjefoaa
