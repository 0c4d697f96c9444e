/- The document's table and who holds what: they say the same. -/
import Derived.Test.YtffjdjbjkjefoaaRhp
import Derived.Test.YtffjdjbjkjefoaaLbl
namespace Go.Proofs.Ytffjdjbjkjefoaa
open Go.RowKit Go.WideAt
set_option linter.unusedVariables false
set_option linter.unusedSimpArgs false

/-- The list says who holds what. -/
structure TbOf (hs : List Ht) (m : Held) : Prop where
  part : hs.Pairwise fun a b => ¬ (a.1 = b.1 ∧ a.2.1 = b.2.1)
  iff : ∀ x s md, m x s = some md ↔ (x, s, md) ∈ hs
theorem TbOf.nil : TbOf [] (fun _ _ => none) := ⟨List.Pairwise.nil, fun x s md => by simp⟩
theorem TbOf.take {hs : List Ht} {m : Held} (h : TbOf hs m) (k : Nat) (x : Ht) (hx : hs[k]? = some x) : ∀ z ∈ hs.take k, z.1 = x.1 → z.2.1 ≠ x.2.1 := fun z hz h1 h2 => by
  obtain ⟨hk, e⟩ := List.getElem?_eq_some_iff.1 hx
  obtain ⟨i, hi, e2⟩ := List.mem_iff_getElem.1 hz
  rw [List.length_take] at hi
  rw [List.getElem_take] at e2
  have := List.pairwise_iff_getElem.1 h.part i k (by omega) hk (by omega)
  rw [e, e2] at this
  exact this ⟨h1, h2⟩
theorem modeL_none : ∀ {hs : List Ht} {id : Int} {s : List UInt8}, (∀ md, (id, s, md) ∉ hs) → modeL hs id s = 0
  | [], _, _, _ => rfl
  | x :: r, id, s, h => by
    unfold modeL
    rw [if_neg (fun e => h x.2.2 (by rw [← e.1, ← e.2]; simp))]
    exact modeL_none fun md hm => h md (by simp [hm])
theorem modeL_some : ∀ {hs : List Ht} {id : Int} {s : List UInt8} {md : Int}, hs.Pairwise (fun a b : Ht => ¬ (a.1 = b.1 ∧ a.2.1 = b.2.1)) → (id, s, md) ∈ hs → modeL hs id s = md
  | x :: r, id, s, md, hp, h => by
    rw [List.pairwise_cons] at hp
    unfold modeL
    rcases List.mem_cons.1 h with e | e
    · subst e
      rw [if_pos ⟨rfl, rfl⟩]
    · rw [if_neg (hp.1 _ e)]
      exact modeL_some hp.2 e
theorem TbOf.mode {hs : List Ht} {m : Held} (h : TbOf hs m) (id : Int) (s : List UInt8) : modeL hs id s = (m id s).getD 0 := by
  cases hm : m id s with
  | none => exact modeL_none fun md hx => by have := (h.iff id s md).2 hx; rw [hm] at this; cases this
  | some md => exact modeL_some h.part ((h.iff id s md).1 hm)
theorem HsIs.held {hs : List Ht} {m : Held} {id : Int} {F : List Wn} (h : TbOf hs m) (hF : HsIs hs id F) : HeldIs m id F := ⟨hF.up, fun s md => by rw [hF.iff, h.iff]⟩
theorem HeldIs.same {m : Held} {id : Int} : ∀ {L L' : List Wn}, HeldIs m id L → HeldIs m id L' → L = L' := fun {L L'} h h' => by
  have key : ∀ (L L' : List Wn), L.Pairwise (fun x y => blt x.1 y.1 = true) → L'.Pairwise (fun x y => blt x.1 y.1 = true) → (∀ x, x ∈ L ↔ x ∈ L') → L = L' := by
    intro L
    induction L with
    | nil =>
      intro L' _ _ hm
      cases L' with
      | nil => rfl
      | cons y r => exact absurd ((hm y).2 (by simp)) (by simp)
    | cons x r ih =>
      intro L' h1 h2 hm
      cases L' with
      | nil => exact absurd ((hm x).1 (by simp)) (by simp)
      | cons y q =>
        rw [List.pairwise_cons] at h1 h2
        have hxy : x = y := by
          rcases List.mem_cons.1 ((hm x).1 (by simp)) with e | e
          · exact e
          · rcases List.mem_cons.1 ((hm y).2 (by simp)) with e2 | e2
            · exact e2.symm
            · have a := h1.1 y e2
              have b := h2.1 x e
              rw [blt_asymm a] at b
              cases b
        subst hxy
        congr 1
        refine ih q h1.2 h2.2 fun z => ?_
        have hz := hm z
        simp only [List.mem_cons] at hz
        constructor
        · intro hzr
          rcases hz.1 (.inr hzr) with e | e
          · subst e
            have := h1.1 z hzr
            rw [blt_irrefl] at this
            cases this
          · exact e
        · intro hzq
          rcases hz.2 (.inr hzq) with e | e
          · subst e
            have := h2.1 z hzq
            rw [blt_irrefl] at this
            cases this
          · exact e
  exact key L L' h.up h'.up fun x => by rw [show x = (x.1, x.2) from rfl, h.iff, h'.iff]
theorem TbOf.free {hs : List Ht} {m : Held} (h : TbOf hs m) (id : Int) : TbOf (hs.filter fun x => x.1 != id) (freeH m id) :=
  ⟨h.part.sublist List.filter_sublist, fun x s md => by
    rw [List.mem_filter, ← h.iff]
    unfold freeH
    by_cases e : x = id
    · simp [e]
    · simp [e]⟩
end Go.Proofs.Ytffjdjbjkjefoaa
