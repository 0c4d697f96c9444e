/- LockBack: who holds what, as lists alone. -/
import Derived.Test.YtffjdjbjkjefoaaAwk
import Derived.Test.YtffjdjbjkjefoaaHel
namespace Go.Proofs.Ytffjdjbjkjefoaa
open Go.RowKit Go.WideAt
set_option linter.unusedVariables false
set_option linter.unusedSimpArgs false

theorem grownF_dom (m : List UInt8 → Option Int) (l : List (List UInt8 × Int)) (s : List UInt8) : grownF m l s ≠ none ↔ ∃ x ∈ l, x.1 = s ∧ isMode x.2 = true := by
  suffices ∀ (l : List (List UInt8 × Int)) (g : List UInt8 → Option Int), l.foldl (grow1 m) g s ≠ none ↔ g s ≠ none ∨ ∃ x ∈ l, x.1 = s ∧ isMode x.2 = true by
    have h := this l (fun _ => none)
    unfold grownF
    rw [h]
    simp
  intro l
  induction l with
  | nil => intro g; simp
  | cons a l ih =>
    intro g
    rw [List.foldl_cons, ih]
    have e : grow1 m g a s ≠ none ↔ g s ≠ none ∨ (a.1 = s ∧ isMode a.2 = true) := by
      unfold grow1
      by_cases h1 : isMode a.2 = true
      · rw [if_pos h1]
        by_cases h2 : s = a.1
        · rw [if_pos h2]; simp [h2, h1]
        · rw [if_neg h2]
          constructor
          · exact .inl
          · rintro (h | ⟨h, _⟩)
            · exact h
            · exact absurd h.symm h2
      · rw [if_neg h1]
        constructor
        · exact .inl
        · rintro (h | ⟨_, h⟩)
          · exact h
          · exact absurd h h1
    rw [e]
    constructor
    · rintro ((h | h) | ⟨x, hx, h⟩)
      · exact .inl h
      · exact .inr ⟨a, by simp, h⟩
      · exact .inr ⟨x, by simp [hx], h⟩
    · rintro (h | ⟨x, hx, h⟩)
      · exact .inl (.inl h)
      · rcases List.mem_cons.1 hx with rfl | hx
        · exact .inl (.inr h)
        · exact .inr ⟨x, hx, h⟩
theorem grownF_nil (m : List UInt8 → Option Int) (s : List UInt8) : grownF m [] s = none := rfl
/-- Only 1 and 2 hold, and only what they asked for. -/
def Only (a b : List (List UInt8 × Int)) (m : Held) : Prop := ∀ x s, m x s ≠ none → (x = 1 ∧ s ∈ a.map Prod.fst) ∨ (x = 2 ∧ s ∈ b.map Prod.fst)
def Alone (m : Held) (id : Int) : Prop := ∀ x s, m x s ≠ none → x = id
theorem heldN_dom {m : Held} {id : Int} {g : List UInt8 → Option Int} {x : Int} {s : List UInt8} : heldN m id g x s ≠ none ↔ (x = id ∧ g s ≠ none) ∨ m x s ≠ none := by
  unfold heldN
  by_cases e : x = id
  · subst e
    rw [if_pos rfl]
    cases g s with
    | none => simp
    | some v => simp
  · rw [if_neg e]; simp [e]
theorem grown_mem {m : List UInt8 → Option Int} {l : List (List UInt8 × Int)} {s : List UInt8} (h : grownF m l s ≠ none) : s ∈ l.map Prod.fst := by
  obtain ⟨x, hx, e, _⟩ := (grownF_dom m l s).1 h
  exact List.mem_map.2 ⟨x, hx, e⟩
theorem Only.zero (a b : List (List UInt8 × Int)) : Only a b (fun _ _ => none) := fun _ _ h => absurd rfl h
theorem Only.one {a b : List (List UInt8 × Int)} {m : Held} (h : Only a b m) (m' : List UInt8 → Option Int) : Only a b (heldN m 1 (grownF m' a)) := fun x s hx => by
  rcases heldN_dom.1 hx with ⟨rfl, h1⟩ | h1
  · exact .inl ⟨rfl, grown_mem h1⟩
  · exact h x s h1
theorem Only.two {a b : List (List UInt8 × Int)} {m : Held} (h : Only a b m) (m' : List UInt8 → Option Int) : Only a b (heldN m 2 (grownF m' b)) := fun x s hx => by
  rcases heldN_dom.1 hx with ⟨rfl, h1⟩ | h1
  · exact .inr ⟨rfl, grown_mem h1⟩
  · exact h x s h1
theorem freeH_dom {m : Held} {id : Int} {x : Int} {s : List UInt8} : freeH m id x s ≠ none ↔ x ≠ id ∧ m x s ≠ none := by
  unfold freeH
  by_cases e : x = id
  · simp [e]
  · simp [e]
theorem Only.free {a b : List (List UInt8 × Int)} {m : Held} (h : Only a b m) (id : Int) : Only a b (freeH m id) := fun x s hx => h x s (freeH_dom.1 hx).2
theorem Only.alone2 {a b : List (List UInt8 × Int)} {m : Held} (h : Only a b m) : Alone (freeH m 1) 2 := fun x s hx => by
  obtain ⟨h1, h2⟩ := freeH_dom.1 hx
  rcases h x s h2 with ⟨h3, _⟩ | ⟨h3, _⟩
  · exact absurd h3 h1
  · exact h3
theorem Alone.held {m : Held} {id : Int} (h : Alone m id) (g : List UInt8 → Option Int) : Alone (heldN m id g) id := fun x s hx => by
  rcases heldN_dom.1 hx with ⟨h1, _⟩ | h1
  · exact h1
  · exact h x s h1
theorem Alone.zero (id : Int) : Alone (fun _ _ => none) id := fun _ _ h => absurd rfl h
theorem Alone.free {m : Held} {id : Int} (h : Alone m id) (x : Int) (s : List UInt8) : freeH m id x s = none := by
  cases hx : freeH m id x s with
  | none => rfl
  | some v =>
    obtain ⟨h1, h2⟩ := freeH_dom.1 (show freeH m id x s ≠ none by rw [hx]; simp)
    exact absurd (h x s h2) h1
/-- Nobody else holds: nobody is in the way. -/
theorem Alone.clear {m : Held} {id : Int} (h : Alone m id) {g : List UInt8 → Option Int} {A : List Int} (hA : Against m g id A) : A = [] := hA.none fun x s hb => by
  obtain ⟨h1, md, q, _, h2, _⟩ := hb
  exact h1 (h x s (by rw [h2]; simp))
theorem Against.nothing {m : Held} {g : List UInt8 → Option Int} {id : Int} {A : List Int} (hA : Against m g id A) (h : ∀ s, g s = Option.none) : A = [] := hA.none fun x s hb => by
  obtain ⟨_, md, q, h1, _⟩ := hb
  rw [h s] at h1
  cases h1
theorem Against.vacant {m : Held} {g : List UInt8 → Option Int} {id : Int} {A : List Int} (hA : Against m g id A) (h : ∀ x s, m x s = Option.none) : A = [] := hA.none fun x s hb => by
  obtain ⟨_, md, q, _, h1, _⟩ := hb
  rw [h x s] at h1
  cases h1
theorem Against.one {m : Held} {g : List UInt8 → Option Int} {id : Int} {A A' : List Int} (h : Against m g id A) (h' : Against m g id A') : A' = A := rising_ext h'.up h.up fun x => (h'.iff x).trans (h.iff x).symm
theorem HeldIs.nodup {m : Held} {id : Int} {L : List (List UInt8 × Int)} (h : HeldIs m id L) : (L.map Prod.fst).Nodup := by
  unfold List.Nodup
  rw [List.pairwise_map]
  exact h.up.imp fun {x y} hxy e => by
    rw [e, blt_irrefl] at hxy
    cases hxy
theorem HeldIs.mem {m : Held} {id : Int} {L : List (List UInt8 × Int)} (h : HeldIs m id L) (s : List UInt8) : s ∈ L.map Prod.fst ↔ m id s ≠ none := by
  rw [List.mem_map]
  constructor
  · rintro ⟨⟨t, md⟩, hx, rfl⟩
    rw [(h.iff t md).1 hx]
    simp
  · intro hn
    cases hm : m id s with
    | none => exact absurd hm hn
    | some md => exact ⟨(s, md), (h.iff s md).2 hm, rfl⟩
theorem HeldIs.len {m m' : Held} {id : Int} {L L' : List (List UInt8 × Int)} (h : HeldIs m id L) (h' : HeldIs m' id L') (hd : ∀ s, m' id s ≠ none ↔ m id s ≠ none) : L'.length = L.length := by
  have h1 := List.Nodup.length_le_of_subset (l₂ := L'.map Prod.fst) h.nodup (fun s hs => (h'.mem s).2 ((hd s).2 ((h.mem s).1 hs)))
  have h2 := List.Nodup.length_le_of_subset (l₂ := L.map Prod.fst) h'.nodup (fun s hs => (h.mem s).2 ((hd s).1 ((h'.mem s).1 hs)))
  simp only [List.length_map] at h1 h2
  omega
theorem HeldIs.nil {m : Held} {id : Int} {L : List (List UInt8 × Int)} (h : HeldIs m id L) (hd : ∀ s, m id s = none) : L = [] := by
  cases L with
  | nil => rfl
  | cons x L =>
    have := (h.iff x.1 x.2).1 (by simp)
    rw [hd] at this
    cases this
theorem Only.pairs {a b : List (List UInt8 × Int)} {m : Held} (h : Only a b m) : ∃ l : List (Int × List UInt8), l.length ≤ a.length + b.length ∧ ∀ x s, m x s ≠ none → (x, s) ∈ l := by
  refine ⟨(a.map fun y => ((1 : Int), y.1)) ++ b.map fun y => ((2 : Int), y.1), by simp, fun x s hx => ?_⟩
  rw [List.mem_append]
  rcases h x s hx with ⟨rfl, h1⟩ | ⟨rfl, h1⟩
  · obtain ⟨y, hy, rfl⟩ := List.mem_map.1 h1
    exact .inl (List.mem_map.2 ⟨y, hy, rfl⟩)
  · obtain ⟨y, hy, rfl⟩ := List.mem_map.1 h1
    exact .inr (List.mem_map.2 ⟨y, hy, rfl⟩)
theorem Only.names1 {a b : List (List UInt8 × Int)} {m : Held} (h : Only a b m) (ha : a.length ≤ 5864062014805) : ∃ Z : List (List UInt8), Z.length ≤ 5864062014805 ∧ ∀ s, (m 1 s ≠ none ∨ grownF (m 1) a s ≠ none) → s ∈ Z :=
  ⟨a.map Prod.fst, by simpa using ha, fun s hs => by
    rcases hs with h1 | h1
    · rcases h 1 s h1 with ⟨_, h2⟩ | ⟨h2, _⟩
      · exact h2
      · omega
    · exact grown_mem h1⟩
theorem Only.names2 {a b : List (List UInt8 × Int)} {m : Held} (h : Only a b m) (hb : b.length ≤ 5864062014805) : ∃ Z : List (List UInt8), Z.length ≤ 5864062014805 ∧ ∀ s, (m 2 s ≠ none ∨ grownF (m 2) b s ≠ none) → s ∈ Z :=
  ⟨b.map Prod.fst, by simpa using hb, fun s hs => by
    rcases hs with h1 | h1
    · rcases h 2 s h1 with ⟨h2, _⟩ | ⟨_, h2⟩
      · omega
      · exact h2
    · exact grown_mem h1⟩
theorem Only.row1 {a b : List (List UInt8 × Int)} {m : Held} (h : Only a b m) (ha : a.length ≤ 5864062014805) {w : World} {base : Nat} {B : Tb} {N : Nat} (hT : TabIs w base B m N) : (B.nm 1).length ≤ 5864062014805 := by
  refine Nat.le_trans (List.Nodup.length_le_of_subset (l₂ := a.map Prod.fst) (hT.nodup 1) fun s hs => ?_) (by simpa using ha)
  rcases h 1 s ((hT.names 1 s).1 hs) with ⟨_, h2⟩ | ⟨h2, _⟩
  · exact h2
  · omega
theorem TabIs.vacant {w : World} {base : Nat} {B : Tb} {m : Held} {N : Nat} (hT : TabIs w base B m N) (h : ∀ x s, m x s = none) (s : List UInt8) : B.on s = none := by
  cases hb : B.on s with
  | none => rfl
  | some b =>
    obtain ⟨x, hx⟩ := hT.nemp s b hb
    exact absurd (h x s) hx
end Go.Proofs.Ytffjdjbjkjefoaa
