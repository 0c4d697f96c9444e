/- Who can be reached: paths, rounds, what is the greatest of some round. Lists and numbers alone. -/
namespace Go.Proofs.Ytaoghggbcbpapaa
set_option linter.unusedVariables false
set_option linter.unusedSimpArgs false

/-- n + 1 steps lead from a to b. -/
def Way {α : Type} (S : α → α → Prop) : Nat → α → α → Prop
  | 0, a, b => S a b
  | n + 1, a, b => ∃ c, S a c ∧ Way S n c b
/-- One step or more lead from a to b. -/
def Rch {α : Type} (S : α → α → Prop) (a b : α) : Prop := ∃ n, Way S n a b
section
variable {α : Type} {S T : α → α → Prop} {a b c : α}
theorem Rch.one (h : S a b) : Rch S a b := ⟨0, h⟩
theorem Rch.head (h : S a c) (k : Rch S c b) : Rch S a b := let ⟨n, k⟩ := k; ⟨n + 1, c, h, k⟩
/-- By its last step. -/
theorem Rch.ind {P : α → Prop} (h : Rch S a b) (first : ∀ x, S a x → P x) (next : ∀ x y, Rch S a x → P x → S x y → P y) : P b := by
  obtain ⟨n, h⟩ := h
  have key : ∀ n x b, Way S n x b → (∀ y, S x y → P y ∧ Rch S a y) → P b ∧ Rch S a b := by
    intro n
    induction n with
    | zero => intro x b h k; exact k b h
    | succ n ih =>
      rintro x b ⟨c, h1, h2⟩ k
      obtain ⟨p, r⟩ := k c h1
      refine ih c b h2 (fun y hy => ⟨next c y r p hy, ?_⟩)
      obtain ⟨m, r⟩ := r
      have snoc : ∀ m u v, Way S m u v → ∀ y, S v y → Rch S u y := by
        intro m
        induction m with
        | zero => intro u v h y hy; exact ⟨1, v, h, hy⟩
        | succ m ih2 => rintro u v ⟨c', h1', h2'⟩ y hy; exact Rch.head h1' (ih2 c' v h2' y hy)
      exact snoc m a c r y hy
  exact (key n a b h (fun y hy => ⟨first y hy, Rch.one hy⟩)).1
/-- By its first step. -/
theorem Rch.dni {P : α → Prop} (h : Rch S a b) (last : ∀ x, S x b → P x) (back : ∀ x y, S x y → Rch S y b → P y → P x) : P a := by
  obtain ⟨n, h⟩ := h
  induction n generalizing a with
  | zero => exact last a h
  | succ n ih => obtain ⟨c, h1, h2⟩ := h; exact back a c h1 ⟨n, h2⟩ (ih h2)
theorem Rch.tail (h : Rch S a c) (k : S c b) : Rch S a b :=
  h.ind (P := fun x => S x b → Rch S a b) (fun x hx k => Rch.head hx (Rch.one k)) (fun x y hx _ hy k => by
    refine hx.dni (P := fun z => Rch S z b) (fun z hz => Rch.head hz (Rch.head hy (Rch.one k))) (fun u v huv _ hv => Rch.head huv hv)) k
theorem Rch.trans (h : Rch S a b) (k : Rch S b c) : Rch S a c :=
  h.dni (P := fun x => Rch S x c) (fun x hx => Rch.head hx k) (fun x y hxy _ hy => Rch.head hxy hy)
theorem Rch.mono (h : Rch S a b) (k : ∀ x y, S x y → T x y) : Rch T a b :=
  h.dni (P := fun x => Rch T x b) (fun x hx => Rch.one (k _ _ hx)) (fun x y hxy _ hy => Rch.head (k _ _ hxy) hy)
/-- What is closed is not left. -/
theorem Rch.closed {P : α → Prop} (h : Rch S a b) (first : ∀ x, S a x → P x) (next : ∀ x y, P x → S x y → P y) : P b :=
  h.ind first (fun x y _ p s => next x y p s)
theorem Rch.turn (h : Rch S a b) : Rch (fun x y => S y x) b a :=
  h.dni (P := fun x => Rch (fun x y => S y x) b x) (fun x hx => Rch.one hx) (fun x y hxy _ hy => hy.tail hxy)
theorem Rch.first (h : Rch S a b) : ∃ c, S a c := by
  obtain ⟨n, h⟩ := h
  cases n with
  | zero => exact ⟨b, h⟩
  | succ n => exact ⟨_, h.choose_spec.1⟩
theorem Rch.last (h : Rch S a b) : ∃ c, S c b := h.ind (P := fun x => ∃ c, S c x) (fun x hx => ⟨a, hx⟩) (fun x y _ _ hxy => ⟨x, hxy⟩)
end
/-- Steps of places as steps of what stands there. -/
theorem rch_map {α β : Type} {S : α → α → Prop} {T : β → β → Prop} (f : α → β) (ok : α → Prop) (inj : ∀ x y, ok x → ok y → f x = f y → x = y) (hst : ∀ x y, S x y → ok y) (h1 : ∀ x y, ok x → ok y → (S x y ↔ T (f x) (f y))) (h2 : ∀ x y, ok x → T (f x) y → ∃ z, ok z ∧ y = f z) {a b : α} (ha : ok a) (hb : ok b) : Rch S a b ↔ Rch T (f a) (f b) := by
  constructor
  · intro h
    have := h.ind (P := fun x => ok x ∧ Rch T (f a) (f x)) (fun x hx => ⟨hst _ _ hx, Rch.one ((h1 _ _ ha (hst _ _ hx)).1 hx)⟩) (fun x y _ p s => ⟨hst _ _ s, p.2.tail ((h1 _ _ p.1 (hst _ _ s)).1 s)⟩)
    exact this.2
  · intro h
    obtain ⟨z, hz, e, r⟩ := h.ind (P := fun y => ∃ z, ok z ∧ y = f z ∧ Rch S a z) (fun y hy => by
      obtain ⟨z, hz, rfl⟩ := h2 _ _ ha hy
      exact ⟨z, hz, rfl, Rch.one ((h1 _ _ ha hz).2 hy)⟩) (fun x y _ p s => by
      obtain ⟨z, hz, rfl, r⟩ := p
      obtain ⟨u, hu, rfl⟩ := h2 _ _ hz s
      exact ⟨u, hu, rfl, r.tail ((h1 _ _ hz hu).2 s)⟩)
    rw [inj b z hb hz e]
    exact r

/-! ### Edges -/
def Stp (E : List (Int × Int)) (a b : Int) : Prop := (a, b) ∈ E
/-- .. by way of numbers up to n alone. -/
def StpTo (E : List (Int × Int)) (n : Int) (a b : Int) : Prop := (a, b) ∈ E ∧ b ≤ n
/-- n is the greatest of some round. -/
def Top (E : List (Int × Int)) (n : Int) : Prop := Rch (StpTo E n) n n
/-- x lies on a round with a. -/
def Both (E : List (Int × Int)) (a x : Int) : Prop := Rch (Stp E) a x ∧ Rch (Stp E) x a
theorem Both.round {E : List (Int × Int)} {a x : Int} (h : Both E a x) : Rch (Stp E) a a := h.1.trans h.2
theorem Both.self {E : List (Int × Int)} {a : Int} (h : Rch (Stp E) a a) : Both E a a := ⟨h, h⟩
theorem Both.far {E : List (Int × Int)} {a x : Int} (h : Both E a x) : Rch (Stp E) x x := h.2.trans h.1
/-- What Cycle tells. -/
structure CycIs (E : List (Int × Int)) (a : Int) (C : List Int) : Prop where
  rise : C.Pairwise (· < ·)
  just : ∀ x, x ∈ C ↔ Both E a x
theorem CycIs.nil_iff {E : List (Int × Int)} {a : Int} {C : List Int} (h : CycIs E a C) : C = [] ↔ ¬ Rch (Stp E) a a := by
  constructor
  · intro e r
    have := (h.just a).2 (Both.self r)
    rw [e] at this
    simp at this
  · intro n
    refine List.eq_nil_iff_forall_not_mem.2 fun x hx => n ((h.just x).1 hx).round
theorem Top.round {E : List (Int × Int)} {n : Int} (h : Top E n) : Rch (Stp E) n n := Rch.mono h (fun _ _ h => h.1)
theorem le_of_rise {C : List Int} (h : C.Pairwise (· < ·)) {x m : Int} (hx : x ∈ C) (hm : C.getLast? = some m) : x ≤ m := by
  obtain ⟨D, rfl⟩ := List.getLast?_eq_some_iff.1 hm
  rw [List.pairwise_append] at h
  rcases List.mem_append.1 hx with h1 | h1
  · exact Int.le_of_lt (h.2.2 x h1 m (by simp))
  · simp at h1; omega
/-- The greatest number of a set that has one of a list's. -/
theorem max_of (p : Int → Prop) : ∀ L : List Int, (∃ x ∈ L, p x) → ∃ x ∈ L, p x ∧ ∀ y ∈ L, p y → y ≤ x
  | [], h => by obtain ⟨x, hx, _⟩ := h; simp at hx
  | z :: L, h => by
    by_cases hL : ∃ x ∈ L, p x
    · obtain ⟨x, hx, px, hm⟩ := max_of p L hL
      by_cases hz : p z ∧ x < z
      · refine ⟨z, by simp, hz.1, fun y hy py => ?_⟩
        rcases List.mem_cons.1 hy with e | e
        · omega
        · have := hm y e py; omega
      · refine ⟨x, by simp [hx], px, fun y hy py => ?_⟩
        rcases List.mem_cons.1 hy with e | e
        · subst e
          have : ¬ x < y := fun h => hz ⟨py, h⟩
          omega
        · exact hm y e py
    · obtain ⟨x, hx, px⟩ := h
      rcases List.mem_cons.1 hx with e | e
      · subst e
        refine ⟨x, by simp, px, fun y hy py => ?_⟩
        rcases List.mem_cons.1 hy with e | e
        · omega
        · exact absurd ⟨y, e, py⟩ hL
      · exact absurd ⟨x, e, px⟩ hL
/-- Nobody on a round is above m, and m is on one: m is the greatest of some round. -/
theorem top_of_max {E : List (Int × Int)} {m : Int} (hm : Rch (Stp E) m m) (hx : ∀ x, Rch (Stp E) x x → x ≤ m) : Top E m := by
  have key : ∀ y, Rch (Stp E) m y → Rch (Stp E) y m → Rch (StpTo E m) m y := by
    intro y hy
    refine hy.ind (P := fun y => Rch (Stp E) y m → Rch (StpTo E m) m y) (fun x h r => ?_) (fun x y r p h k => ?_)
    · exact Rch.one ⟨h, hx x (r.trans (Rch.one h))⟩
    · exact (p (Rch.head h k)).tail ⟨h, hx y ((k.trans r).tail h)⟩
  exact key m hm hm
theorem top_ex {E : List (Int × Int)} {x : Int} (h : Rch (Stp E) x x) : ∃ m, Top E m ∧ x ≤ m := by
  have hf : ∀ y, Rch (Stp E) y y → y ∈ E.map Prod.fst := fun y hy => by
    obtain ⟨c, hc⟩ := hy.first
    exact List.mem_map.2 ⟨(y, c), hc, rfl⟩
  obtain ⟨m, _, hm, hx⟩ := max_of (fun y => Rch (Stp E) y y) (E.map Prod.fst) ⟨x, hf x h, h⟩
  exact ⟨m, top_of_max hm (fun y hy => hx y (hf y hy) hy), hx x (hf x h) h⟩
/-! ### Without -/
def without (E : List (Int × Int)) (n : Int) : List (Int × Int) := E.filter fun e => e.1 != n && e.2 != n
theorem mem_without {E : List (Int × Int)} {n a b : Int} : (a, b) ∈ without E n ↔ (a, b) ∈ E ∧ a ≠ n ∧ b ≠ n := by simp [without]
/-- The greatest on rounds taken away: of the others the same are the greatest of some round. -/
theorem top_without {E : List (Int × Int)} {m : Int} (hx : ∀ x, Rch (Stp E) x x → x ≤ m) {x : Int} (hne : x ≠ m) : Top (without E m) x ↔ Top E x := by
  constructor
  · intro h
    exact Rch.mono h (fun a b h => ⟨(mem_without.1 h.1).1, h.2⟩)
  · intro h
    have hlt : x < m := by have := hx x (Top.round h); omega
    have : x < m ∧ Rch (StpTo (without E m) x) x x := by
      refine Rch.ind (P := fun y => y < m ∧ Rch (StpTo (without E m) x) x y) h (fun y hy => ?_) (fun y z _ p hz => ?_)
      · have hb := hy.2
        exact ⟨by omega, Rch.one ⟨mem_without.2 ⟨hy.1, by omega, by omega⟩, hb⟩⟩
      · have hb := hz.2
        exact ⟨by omega, p.2.tail ⟨mem_without.2 ⟨hz.1, by have := p.1; omega, by omega⟩, hb⟩⟩
    exact this.2
/-- What is left: the edges that touch nobody who is the greatest of some round. -/
structure FreeIs (E F : List (Int × Int)) : Prop where
  ex : ∃ f : Int × Int → Bool, F = E.filter f ∧ ∀ e ∈ E, f e = true ↔ ¬ Top E e.1 ∧ ¬ Top E e.2
theorem FreeIs.det {E F G : List (Int × Int)} (h : FreeIs E F) (k : FreeIs E G) : F = G := by
  obtain ⟨f, rfl, hf⟩ := h.ex
  obtain ⟨g, rfl, hg⟩ := k.ex
  refine List.filter_congr fun e he => ?_
  have := (hf e he).trans (hg e he).symm
  cases hfe : f e <;> cases hge : g e <;> simp_all
theorem FreeIs.done {E : List (Int × Int)} (h : ∀ x, ¬ Rch (Stp E) x x) : FreeIs E E :=
  ⟨fun _ => true, (List.filter_eq_self.2 fun _ _ => rfl).symm, fun e _ => ⟨fun _ => ⟨fun t => h _ (Top.round t), fun t => h _ (Top.round t)⟩, fun _ => rfl⟩⟩
theorem FreeIs.step {E F : List (Int × Int)} {m : Int} (hm : Rch (Stp E) m m) (hx : ∀ x, Rch (Stp E) x x → x ≤ m) (h : FreeIs (without E m) F) : FreeIs E F := by
  obtain ⟨f, rfl, hf⟩ := h.ex
  refine ⟨fun e => f e && (e.1 != m && e.2 != m), by simp [without, List.filter_filter], fun e he => ?_⟩
  obtain ⟨a, b⟩ := e
  by_cases ha : a = m
  · subst ha
    simp
    intro h
    exact absurd (top_of_max hm hx) h
  · by_cases hb : b = m
    · subst hb
      simp
      intro _
      exact top_of_max hm hx
    · have := hf (a, b) (mem_without.2 ⟨he, ha, hb⟩)
      simp only [top_without hx ha, top_without hx hb] at this
      simp [ha, hb, this]
theorem FreeIs.mem {E F : List (Int × Int)} (h : FreeIs E F) {a b : Int} : (a, b) ∈ F ↔ (a, b) ∈ E ∧ ¬ Top E a ∧ ¬ Top E b := by
  obtain ⟨f, rfl, hf⟩ := h.ex
  rw [List.mem_filter]
  constructor
  · rintro ⟨h1, h2⟩; exact ⟨h1, (hf _ h1).1 h2⟩
  · rintro ⟨h1, h2⟩; exact ⟨h1, (hf _ h1).2 h2⟩
theorem FreeIs.free {E F : List (Int × Int)} (h : FreeIs E F) (x : Int) : ¬ Rch (Stp F) x x := by
  intro r
  obtain ⟨m, hm, _⟩ := top_ex r
  have hE : Top E m := Rch.mono hm (fun a b h' => ⟨(h.mem.1 h'.1).1, h'.2⟩)
  obtain ⟨c, hc⟩ := Rch.first hm
  exact (h.mem.1 hc.1).2.1 hE
theorem FreeIs.len {E F : List (Int × Int)} (h : FreeIs E F) : F.length ≤ E.length := by
  obtain ⟨f, rfl, _⟩ := h.ex
  exact List.length_filter_le _ _
/-- Of the edges whose ends lie on no round none is lost. -/
theorem FreeIs.kept {E F : List (Int × Int)} (h : FreeIs E F) (p : Int × Int → Bool) (hp : ∀ e ∈ E, p e = true → ¬ Rch (Stp E) e.1 e.1 ∧ ¬ Rch (Stp E) e.2 e.2) : (E.filter p).length ≤ F.length := by
  obtain ⟨f, rfl, hf⟩ := h.ex
  rw [← List.countP_eq_length_filter, ← List.countP_eq_length_filter]
  refine List.countP_mono_left fun e he pe => ?_
  have := hp e he pe
  exact (hf e he).2 ⟨fun t => this.1 t.round, fun t => this.2 t.round⟩
theorem FreeIs.all {E F : List (Int × Int)} (h : FreeIs E F) (hn : ∀ x, ¬ Rch (Stp E) x x) : F = E := h.det (FreeIs.done hn)
/-! ### Edges that fall, and one that rises -/
theorem fall {E : List (Int × Int)} (h : ∀ e ∈ E, e.2 < e.1) {a b : Int} (r : Rch (Stp E) a b) : b < a :=
  r.ind (P := fun x => x < a) (fun x hx => h _ hx) (fun x y _ p s => by have := h _ s; simp at this; omega)
theorem fall_none {E : List (Int × Int)} (h : ∀ e ∈ E, e.2 < e.1) (x : Int) : ¬ Rch (Stp E) x x := fun r => by have := fall h r; omega
section
variable {E : List (Int × Int)} {u v : Int}
theorem up_le (h : ∀ e ∈ E, e.2 < e.1) (hb : u < v) {a b : Int} (ha : a ≤ v) (r : Rch (Stp (E ++ [(u, v)])) a b) : b ≤ v := by
  refine r.closed (P := fun x => x ≤ v) (fun x hx => ?_) (fun x y p s => ?_)
  · rcases List.mem_append.1 hx with h1 | h1
    · have := h _ h1; simp at this; omega
    · simp at h1; omega
  · rcases List.mem_append.1 s with h1 | h1
    · have := h _ h1; simp at this; omega
    · simp at h1; omega
theorem up_ge (h : ∀ e ∈ E, e.2 < e.1) (hb : u < v) {a b : Int} (hB : u ≤ b) (r : Rch (Stp (E ++ [(u, v)])) a b) : u ≤ a := by
  refine r.dni (P := fun x => u ≤ x) (fun x hx => ?_) (fun x y s _ p => ?_)
  · rcases List.mem_append.1 hx with h1 | h1
    · have := h _ h1; simp at this; omega
    · simp at h1; omega
  · rcases List.mem_append.1 s with h1 | h1
    · have := h _ h1; simp at this; omega
    · simp at h1; omega
/-- A way that does not fall goes by the edge back. -/
theorem up_by (h : ∀ e ∈ E, e.2 < e.1) {a b : Int} (r : Rch (Stp (E ++ [(u, v)])) a b) : b < a ∨ ((a = u ∨ Rch (Stp (E ++ [(u, v)])) a u) ∧ (b = v ∨ Rch (Stp (E ++ [(u, v)])) v b)) := by
  refine r.ind (P := fun b => b < a ∨ ((a = u ∨ Rch (Stp (E ++ [(u, v)])) a u) ∧ (b = v ∨ Rch (Stp (E ++ [(u, v)])) v b))) (fun x hx => ?_) (fun x y r p s => ?_)
  · rcases List.mem_append.1 hx with h1 | h1
    · have := h _ h1; exact .inl (by simpa using this)
    · simp at h1; exact .inr ⟨.inl h1.1, .inl h1.2⟩
  · rcases p with p | ⟨p1, p2⟩
    · rcases List.mem_append.1 s with h1 | h1
      · have := h _ h1; simp at this; exact .inl (by omega)
      · simp at h1
        exact .inr ⟨.inr (h1.1 ▸ r), .inl h1.2⟩
    · refine .inr ⟨p1, .inr ?_⟩
      rcases p2 with e | e
      · subst e; exact Rch.one s
      · exact e.tail s
theorem up_round (h : ∀ e ∈ E, e.2 < e.1) {x : Int} (r : Rch (Stp (E ++ [(u, v)])) x x) : Rch (Stp (E ++ [(u, v)])) v u := by
  have huv : Rch (Stp (E ++ [(u, v)])) u v := Rch.one (by simp [Stp])
  rcases up_by h r with e | ⟨h1, h2⟩
  · omega
  · rcases h2 with e | e
    · subst e
      rcases h1 with e1 | e1
      · subst e1; exact r
      · exact e1
    · rcases h1 with e1 | e1
      · subst e1; exact e
      · exact e.trans e1
end
end Go.Proofs.Ytaoghggbcbpapaa
