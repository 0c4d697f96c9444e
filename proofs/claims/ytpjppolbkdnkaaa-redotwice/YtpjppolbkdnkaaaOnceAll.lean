/- RedoOnce: what the losers of a history undo, and the contracts of Analyze and Undo over it. -/
import Derived.Test.YtpjppolbkdnkaaaCountP
import Derived.Test.YtpjppolbkdnkaaaHeapAll
import Derived.Test.YtpjppolbkdnkaaaOne
import Derived.Test.YtpjppolbkdnkaaaAnalyzeG
import Derived.Test.YtpjppolbkdnkaaaHistU
import Derived.Test.YtpjppolbkdnkaaaAwake
namespace Go.Proofs.Ytpjppolbkdnkaaa
open Go.RowKit
set_option linter.unusedVariables false
set_option linter.unusedSimpArgs false

/-- The way back of transaction t from the LSN v on: the places of the updates that it meets. -/
def Chain (L : List Ln) (t : Int) (v : Int) (ks : List Nat) : Prop :=
  ∀ P : Int → List Nat → Prop,
    (∀ (i : Nat) (r : Ln) (v : Int) (h : L[i]? = some r) (hv : r.lsn = v) (ht : r.txn = t) (hk : r.kind = 1) (hp : r.prev = 0), P v ([])) →
    (∀ (i : Nat) (r : Ln) (v : Int) (h : L[i]? = some r) (hv : r.lsn = v) (ht : r.txn = t) (hk : r.kind = 2) (hp : 0 < r.prev ∧ r.prev < v) (ks : List Nat) (c : P r.prev ks), P v (i :: ks)) →
    (∀ (i : Nat) (r : Ln) (v : Int) (h : L[i]? = some r) (hv : r.lsn = v) (ht : r.txn = t) (hk : r.kind = 3) (hp : 0 < r.next ∧ r.next < v) (ks : List Nat) (c : P r.next ks), P v ks) →
    P v ks
theorem Chain.begin {L : List Ln} {t : Int} (i : Nat) (r : Ln) (v : Int) (h : L[i]? = some r) (hv : r.lsn = v) (ht : r.txn = t) (hk : r.kind = 1) (hp : r.prev = 0) : Chain L t v ([]) := fun P hP1 hP2 hP3 => hP1 i r v h hv ht hk hp
theorem Chain.upd {L : List Ln} {t : Int} (i : Nat) (r : Ln) (v : Int) (h : L[i]? = some r) (hv : r.lsn = v) (ht : r.txn = t) (hk : r.kind = 2) (hp : 0 < r.prev ∧ r.prev < v) (ks : List Nat) (c : Chain L t r.prev ks) : Chain L t v (i :: ks) := fun P hP1 hP2 hP3 => hP2 i r v h hv ht hk hp ks (c P hP1 hP2 hP3)
theorem Chain.clr {L : List Ln} {t : Int} (i : Nat) (r : Ln) (v : Int) (h : L[i]? = some r) (hv : r.lsn = v) (ht : r.txn = t) (hk : r.kind = 3) (hp : 0 < r.next ∧ r.next < v) (ks : List Nat) (c : Chain L t r.next ks) : Chain L t v ks := fun P hP1 hP2 hP3 => hP3 i r v h hv ht hk hp ks (c P hP1 hP2 hP3)
theorem Chain.ind {L : List Ln} {t : Int} {motive : (v : Int) → (ks : List Nat) → Chain L t v ks → Prop}
    (begin : ∀ (i : Nat) (r : Ln) (v : Int) (h : L[i]? = some r) (hv : r.lsn = v) (ht : r.txn = t) (hk : r.kind = 1) (hp : r.prev = 0), motive v ([]) (.begin i r v h hv ht hk hp))
    (upd : ∀ (i : Nat) (r : Ln) (v : Int) (h : L[i]? = some r) (hv : r.lsn = v) (ht : r.txn = t) (hk : r.kind = 2) (hp : 0 < r.prev ∧ r.prev < v) (ks : List Nat) (c : Chain L t r.prev ks) (ih : motive r.prev ks c), motive v (i :: ks) (.upd i r v h hv ht hk hp ks c))
    (clr : ∀ (i : Nat) (r : Ln) (v : Int) (h : L[i]? = some r) (hv : r.lsn = v) (ht : r.txn = t) (hk : r.kind = 3) (hp : 0 < r.next ∧ r.next < v) (ks : List Nat) (c : Chain L t r.next ks) (ih : motive r.next ks c), motive v ks (.clr i r v h hv ht hk hp ks c))
    {v : Int} {ks : List Nat} (h : Chain L t v ks) : motive v ks h := by
  obtain ⟨_, hm⟩ := h (fun v ks => ∃ c : Chain L t v ks, motive v ks c)
    (fun i r v h hv ht hk hp => ⟨.begin i r v h hv ht hk hp, begin i r v h hv ht hk hp⟩)
    (fun i r v h hv ht hk hp ks ⟨c, mc⟩ => ⟨.upd i r v h hv ht hk hp ks c, upd i r v h hv ht hk hp ks c mc⟩)
    (fun i r v h hv ht hk hp ks ⟨c, mc⟩ => ⟨.clr i r v h hv ht hk hp ks c, clr i r v h hv ht hk hp ks c mc⟩)
  exact hm
theorem Chain.cas {L : List Ln} {t v : Int} {ks : List Nat} (h : Chain L t v ks) : (∃ (i : Nat) (r : Ln), L[i]? = some r ∧ r.lsn = v ∧ r.txn = t ∧ r.kind = 1 ∧ r.prev = 0 ∧ ks = []) ∨
    (∃ (i : Nat) (r : Ln), L[i]? = some r ∧ r.lsn = v ∧ r.txn = t ∧ r.kind = 2 ∧ (0 < r.prev ∧ r.prev < v) ∧ ∃ ks', ks = i :: ks' ∧ Chain L t r.prev ks') ∨
    (∃ (i : Nat) (r : Ln), L[i]? = some r ∧ r.lsn = v ∧ r.txn = t ∧ r.kind = 3 ∧ (0 < r.next ∧ r.next < v) ∧ Chain L t r.next ks) := by
  induction h using Chain.ind with
  | begin i r v h hv ht hk hp => exact .inl ⟨i, r, h, hv, ht, hk, hp, rfl⟩
  | upd i r v h hv ht hk hp ks c ih => exact .inr (.inl ⟨i, r, h, hv, ht, hk, hp, ks, rfl, c⟩)
  | clr i r v h hv ht hk hp ks c ih => exact .inr (.inr ⟨i, r, h, hv, ht, hk, hp, c⟩)
theorem Chain.more {L : List Ln} {t v : Int} {ks : List Nat} (h : Chain L t v ks) (x : Ln) : Chain (L ++ [x]) t v ks := by
  have grow : ∀ {i : Nat} {r : Ln}, L[i]? = some r → (L ++ [x])[i]? = some r := fun {i r} hu => by
    rw [List.getElem?_append_left (List.getElem?_eq_some_iff.1 hu).1]; exact hu
  induction h using Chain.ind with
  | begin i r v h hv ht hk hp => exact .begin i r v (grow h) hv ht hk hp
  | upd i r v h hv ht hk hp ks c ih => exact .upd i r v (grow h) hv ht hk hp ks ih
  | clr i r v h hv ht hk hp ks c ih => exact .clr i r v (grow h) hv ht hk hp ks ih
theorem Chain.tail {L : List Ln} {t v : Int} {k : Nat} {ks : List Nat} (h : Chain L t v (k :: ks)) : ∃ r, L[k]? = some r ∧ r.kind = 2 ∧ r.txn = t ∧ 0 < r.prev ∧ r.prev < r.lsn ∧ Chain L t r.prev ks := by
  generalize hq : k :: ks = q at h
  induction h using Chain.ind with
  | begin => cases hq
  | upd i r v h hv ht hk hp ks' c ih => cases hq; exact ⟨r, h, hk, ht, hp.1, by rw [hv]; exact hp.2, c⟩
  | clr i r v h hv ht hk hp ks' c ih => exact ih hq
def Lsns10 (L : List Ln) : Prop := ∀ (i : Nat) (x : Ln), L[i]? = some x → Hl i x
theorem Lsns10.inj {L : List Ln} (hL : Lsns10 L) {i j : Nat} {x y : Ln} (hx : L[i]? = some x) (hy : L[j]? = some y) (e : x.lsn = y.lsn) : i = j ∧ x = y := by
  have h1 := (hL i x hx).lsn
  have h2 := (hL j y hy).lsn
  have e3 : i = j := by omega
  subst e3
  rw [hx] at hy
  injection hy with hy
  exact ⟨rfl, hy⟩
theorem Lsns10.rises {L : List Ln} (hL : Lsns10 L) : Rises L := fun i j x y hx hy h => by
  have h1 := (hL i x hx).lsn
  have h2 := (hL j y hy).lsn
  omega
theorem Chain.line {L : List Ln} {t v : Int} {ks : List Nat} (h : Chain L t v ks) : ∃ (i : Nat) (r : Ln), L[i]? = some r ∧ r.lsn = v ∧ r.txn = t := by
  cases h using Chain.ind with
  | begin i r v h hv ht => exact ⟨i, r, h, hv, ht⟩
  | upd i r v h hv ht => exact ⟨i, r, h, hv, ht⟩
  | clr i r v h hv ht => exact ⟨i, r, h, hv, ht⟩
theorem Chain.det {L : List Ln} (hL : Lsns10 L) {t v : Int} {ks ks' : List Nat} (h : Chain L t v ks) (h' : Chain L t v ks') : ks = ks' := by
  induction h using Chain.ind generalizing ks' with
  | begin i r v h hv ht hk hp =>
    match h'.cas with
    | .inl ⟨_, _, _, _, _, _, _, e⟩ => exact e.symm
    | .inr (.inl ⟨i', r', g, gv, gt, gk, _⟩) => have := (hL.inj h g (hv.trans gv.symm)).2; subst this; omega
    | .inr (.inr ⟨i', r', g, gv, gt, gk, _⟩) => have := (hL.inj h g (hv.trans gv.symm)).2; subst this; omega
  | upd i r v h hv ht hk hp ks c ih =>
    match h'.cas with
    | .inl ⟨i', r', g, gv, gt, gk, _⟩ => have := (hL.inj h g (hv.trans gv.symm)).2; subst this; omega
    | .inr (.inl ⟨i', r', g, gv, gt, gk, gp, ks2, ecs, c2⟩) =>
      subst ecs
      obtain ⟨rfl, rfl⟩ := hL.inj h g (hv.trans gv.symm)
      rw [ih c2]
    | .inr (.inr ⟨i', r', g, gv, gt, gk, _⟩) => have := (hL.inj h g (hv.trans gv.symm)).2; subst this; omega
  | clr i r v h hv ht hk hp ks c ih =>
    match h'.cas with
    | .inl ⟨i', r', g, gv, gt, gk, _⟩ => have := (hL.inj h g (hv.trans gv.symm)).2; subst this; omega
    | .inr (.inl ⟨i', r', g, gv, gt, gk, _⟩) => have := (hL.inj h g (hv.trans gv.symm)).2; subst this; omega
    | .inr (.inr ⟨i', r', g, gv, gt, gk, gp, c2⟩) =>
      obtain ⟨rfl, rfl⟩ := hL.inj h g (hv.trans gv.symm)
      exact ih c2
theorem Chain.bound {L : List Ln} (hL : Lsns10 L) {t v : Int} {ks : List Nat} (h : Chain L t v ks) : ∀ j ∈ ks, 10 * ((j : Int) + 1) ≤ v ∧ ∃ r, L[j]? = some r ∧ r.txn = t ∧ r.kind = 2 := by
  induction h using Chain.ind with
  | begin => intro j hj; cases hj
  | upd i r v h hv ht hk hp ks c ih =>
    intro j hj
    have h1 := (hL i r h).lsn
    rcases List.mem_cons.1 hj with rfl | hj
    · exact ⟨by omega, r, h, ht, hk⟩
    · obtain ⟨h2, h3⟩ := ih j hj
      exact ⟨by omega, h3⟩
  | clr i r v h hv ht hk hp ks c ih =>
    intro j hj
    obtain ⟨h2, h3⟩ := ih j hj
    exact ⟨by omega, h3⟩
/-- Records that are written: which updates they undo, in their order, and how many ends there are. -/
def Em (bsOf : Ln → List Value) (K' : List (Nat × Obj)) (O : List Ln) (Rs : List Ln) (n : Nat) : Prop :=
  ∀ P : List Ln → List Ln → Nat → Prop,
    (P ([]) ([]) 0) →
    (∀ (O Rs : List Ln) (n : Nat) (id : Int) (h : P O Rs n), P (O ++ [endLn id]) Rs (n + 1)) →
    (∀ (O Rs : List Ln) (n : Nat) (r : Ln) (g c : Nat) (cur : Array Value) (h : P O Rs n) (hk : (g, Obj.cells cur 5 (0, 0)) ∈ K') (ht : cur.toList.take (bsOf r).length = bsOf r), P (O ++ [clrLn r ⟨some ⟨g, 0, none⟩, (bsOf r).length, c⟩]) (Rs ++ [r]) n) →
    P O Rs n
theorem Em.nil {bsOf : Ln → List Value} {K' : List (Nat × Obj)}  : Em bsOf K' ([]) ([]) 0 := fun P hP1 hP2 hP3 => hP1 
theorem Em.ends {bsOf : Ln → List Value} {K' : List (Nat × Obj)} (O Rs : List Ln) (n : Nat) (id : Int) (h : Em bsOf K' O Rs n) : Em bsOf K' (O ++ [endLn id]) Rs (n + 1) := fun P hP1 hP2 hP3 => hP2 O Rs n id (h P hP1 hP2 hP3)
theorem Em.clr {bsOf : Ln → List Value} {K' : List (Nat × Obj)} (O Rs : List Ln) (n : Nat) (r : Ln) (g c : Nat) (cur : Array Value) (h : Em bsOf K' O Rs n) (hk : (g, Obj.cells cur 5 (0, 0)) ∈ K') (ht : cur.toList.take (bsOf r).length = bsOf r) : Em bsOf K' (O ++ [clrLn r ⟨some ⟨g, 0, none⟩, (bsOf r).length, c⟩]) (Rs ++ [r]) n := fun P hP1 hP2 hP3 => hP3 O Rs n r g c cur (h P hP1 hP2 hP3) hk ht
theorem Em.ind {bsOf : Ln → List Value} {K' : List (Nat × Obj)} {motive : (O : List Ln) → (Rs : List Ln) → (n : Nat) → Em bsOf K' O Rs n → Prop}
    (nil : motive ([]) ([]) 0 (.nil))
    (ends : ∀ (O Rs : List Ln) (n : Nat) (id : Int) (h : Em bsOf K' O Rs n) (ih : motive O Rs n h), motive (O ++ [endLn id]) Rs (n + 1) (.ends O Rs n id h))
    (clr : ∀ (O Rs : List Ln) (n : Nat) (r : Ln) (g c : Nat) (cur : Array Value) (h : Em bsOf K' O Rs n) (hk : (g, Obj.cells cur 5 (0, 0)) ∈ K') (ht : cur.toList.take (bsOf r).length = bsOf r) (ih : motive O Rs n h), motive (O ++ [clrLn r ⟨some ⟨g, 0, none⟩, (bsOf r).length, c⟩]) (Rs ++ [r]) n (.clr O Rs n r g c cur h hk ht))
    {O : List Ln} {Rs : List Ln} {n : Nat} (h : Em bsOf K' O Rs n) : motive O Rs n h := by
  obtain ⟨_, hm⟩ := h (fun O Rs n => ∃ c : Em bsOf K' O Rs n, motive O Rs n c)
    ⟨.nil, nil⟩
    (fun O Rs n id ⟨h, mh⟩ => ⟨.ends O Rs n id h, ends O Rs n id h mh⟩)
    (fun O Rs n r g c cur ⟨h, mh⟩ hk ht => ⟨.clr O Rs n r g c cur h hk ht, clr O Rs n r g c cur h hk ht mh⟩)
  exact hm
theorem Run.keeps {L : List Ln} {bsOf : Ln → List Value} {popL fixL : List Los → List Los} {H : List Los} {O O' : List Ln} {K K' : List (Nat × Obj)} (h : Run L bsOf popL fixL H O K O' K') : ∀ p ∈ K, p ∈ K' := by
  have comp : ∀ {y : Ln} {bs : List Value} {O O1 : List Ln} {K K1 : List (Nat × Obj)}, Comp y bs O K O1 K1 → ∀ p ∈ K, p ∈ K1 := fun hc p hp => by
    cases hc using Comp.ind with
    | upd => exact List.mem_cons_of_mem _ hp
    | not => exact hp
  induction h using Run.ind with
  | done => exact fun p hp => hp
  | step y T O K H1 O1 K1 O' K' hb h ih =>
    intro p hp
    refine ih p ?_
    cases hb using BackTo.ind with
    | no => exact hp
    | stop r hr h hn O1' K1' hc => exact comp hc p hp
    | on r hr h hn O1' K1' hc => exact comp hc p hp
theorem perm_ids {H H' : List Los} (h : H.Perm H') : (H.map Los.id).Nodup ↔ (H'.map Los.id).Nodup := (h.map Los.id).nodup_iff
def lnAt (L : List Ln) (i : Nat) : Ln := L[i]?.getD Ln.zero
theorem lnAt_eq {L : List Ln} {i : Nat} {r : Ln} (h : L[i]? = some r) : lnAt L i = r := by unfold lnAt; rw [h]; rfl
theorem less_le {a b : Los} (h : b.less a = false) : b.next ≤ a.next := by
  unfold Los.less at h
  split at h
  · omega
  · have := of_decide_eq_false h
    omega
theorem run_em {L : List Ln} (hL : Lsns10 L) {bsOf : Ln → List Value} {H : List Los} {O O' : List Ln} {K K' : List (Nat × Obj)} (h : Run L bsOf popL fixL H O K O' K') (hh : IsHeap H H.length) (hn : (H.map Los.id).Nodup) (hc : ∀ y ∈ H, ∃ ks, Chain L y.id y.next ks) :
    ∃ op : List Nat, op.Pairwise (fun a b => b < a) ∧ (∀ j, j ∈ op ↔ ∃ y ∈ H, ∃ ks, Chain L y.id y.next ks ∧ j ∈ ks) ∧ ∀ Rs n, Em bsOf K' O Rs n → Em bsOf K' O' (Rs ++ op.map (lnAt L)) (n + H.length) := by
  induction h using Run.ind with
  | done O K => exact ⟨[], List.Pairwise.nil, by simp, fun Rs n h => by simpa using h⟩
  | step y T O K H1 O1 K1 O' K' hb hrun ih =>
    obtain ⟨ks, hck⟩ := hc y List.mem_cons_self
    have hnT : y.id ∉ T.map Los.id ∧ (T.map Los.id).Nodup := List.nodup_cons.1 hn
    have hcT : ∀ z ∈ T, ∃ ks, Chain L z.id z.next ks := fun z hz => hc z (List.mem_cons_of_mem _ hz)
    obtain ⟨i0, r0, hr0, hv0, ht0⟩ := hck.line
    cases hb using BackTo.ind with
    | no hno => exact absurd hv0 (hno r0 (List.mem_of_getElem? hr0))
    | stop r hr hv hst O1 K1 hcomp =>
      obtain ⟨i, hi⟩ := List.mem_iff_getElem?.1 hr
      have hperm := popL_perm y T
      have hkind : ks = [] ∧ r.kind ≠ 2 := by
        match hck.cas with
        | .inl ⟨i', r', g, gv, gt, gk, gp, ecs⟩ =>
          subst ecs
          have := (hL.inj hi g (hv.trans gv.symm)).2
          subst this
          exact ⟨rfl, by omega⟩
        | .inr (.inl ⟨i', r', g, gv, gt, gk, gp, ks', ecs, c⟩) =>
          subst ecs
          have := (hL.inj hi g (hv.trans gv.symm)).2
          subst this
          unfold Ln.goesOn at hst
          rw [if_neg (by omega)] at hst
          omega
        | .inr (.inr ⟨i', r', g, gv, gt, gk, gp, c⟩) =>
          have := (hL.inj hi g (hv.trans gv.symm)).2
          subst this
          unfold Ln.goesOn at hst
          rw [if_pos gk] at hst
          omega
      obtain ⟨rfl, hk2⟩ := hkind
      obtain ⟨op, h1, h2, h3⟩ := ih (popL_heap (y :: T) hh (by simp)) ((perm_ids hperm).2 hnT.2) (fun z hz => hcT z (hperm.mem_iff.1 hz))
      refine ⟨op, h1, fun j => ?_, fun Rs n he => ?_⟩
      · rw [h2]
        constructor
        · rintro ⟨z, hz, ks, hk⟩
          exact ⟨z, List.mem_cons_of_mem _ (hperm.mem_iff.1 hz), ks, hk⟩
        · rintro ⟨z, hz, ks, hk, hj⟩
          rcases List.mem_cons.1 hz with rfl | hz
          · rw [hk.det hL hck] at hj; cases hj
          · exact ⟨z, hperm.mem_iff.2 hz, ks, hk, hj⟩
      · cases hcomp using Comp.ind with
        | upd h => exact absurd h hk2
        | not h =>
          have := h3 Rs (n + 1) (.ends O Rs n y.id he)
          rw [hperm.length_eq] at this
          rw [List.length_cons]
          have e : n + 1 + T.length = n + (T.length + 1) := by omega
          rw [← e]
          exact this
    | on r hr hv hgo O1 K1 hcomp =>
      obtain ⟨i, hi⟩ := List.mem_iff_getElem?.1 hr
      have hperm := fixL_perm (⟨y.id, r.goesOn⟩ :: T)
      have hlen : (fixL (⟨y.id, r.goesOn⟩ :: T)).length = (y :: T).length := by rw [hperm.length_eq]; rfl
      have hheap := fixL_heap y ⟨y.id, r.goesOn⟩ T hh
      have hids : ((fixL (⟨y.id, r.goesOn⟩ :: T)).map Los.id).Nodup := (perm_ids hperm).2 hn
      have hbest : ∀ z ∈ T, z.next ≤ y.next := fun z hz => by
        obtain ⟨k, hk⟩ := List.mem_iff_getElem?.1 (List.mem_cons_of_mem y hz)
        exact less_le (hh.best (Nat.le_refl _) y rfl k z (List.getElem?_eq_some_iff.1 hk).1 hk)
      match hck.cas with
      | .inl ⟨i', r', g, gv, gt, gk, gp, ecs⟩ =>
        subst ecs
        have := (hL.inj hi g (hv.trans gv.symm)).2
        subst this
        unfold Ln.goesOn at hgo
        rw [if_neg (by omega)] at hgo
        omega
      | .inr (.inl ⟨i', r', g, gv, gt, gk, gp, ks', ecs, c⟩) =>
        subst ecs
        obtain ⟨rfl, rfl⟩ := hL.inj hi g (hv.trans gv.symm)
        have hgo' : r.goesOn = r.prev := by unfold Ln.goesOn; rw [if_neg (by omega)]
        rw [hgo'] at hperm hlen hheap hids ih
        obtain ⟨op, h1, h2, h3⟩ := ih hheap hids (fun z hz => by
          rcases List.mem_cons.1 (hperm.mem_iff.1 hz) with rfl | hz
          · exact ⟨ks', c⟩
          · exact hcT z hz)
        have hli := (hL i r hi).lsn
        refine ⟨i :: op, List.pairwise_cons.2 ⟨fun j hj => ?_, h1⟩, fun j => ?_, fun Rs n he => ?_⟩
        · obtain ⟨z, hz, kz, hcz, hjz⟩ := (h2 j).1 hj
          obtain ⟨b1, rj, hrj, htj, _⟩ := hcz.bound hL j hjz
          rcases List.mem_cons.1 (hperm.mem_iff.1 hz) with rfl | hzT
          · have b1 : 10 * ((j : Int) + 1) ≤ r.prev := b1
            omega
          · have b2 := hbest z hzT
            by_cases e : j = i
            · subst e
              rw [hi] at hrj
              injection hrj with hrj
              subst hrj
              have : z.id = y.id := htj.symm.trans gt
              exact absurd (List.mem_map.2 ⟨z, hzT, this⟩) hnT.1
            · omega
        · rw [List.mem_cons, h2]
          constructor
          · rintro (rfl | ⟨z, hz, kz, hcz, hjz⟩)
            · exact ⟨y, List.mem_cons_self, j :: ks', .upd j r _ g gv gt gk gp ks' c, List.mem_cons_self⟩
            · rcases List.mem_cons.1 (hperm.mem_iff.1 hz) with rfl | hz
              · exact ⟨y, List.mem_cons_self, i :: ks', .upd i r _ g gv gt gk gp ks' c, List.mem_cons_of_mem _ (by rw [← hcz.det hL c]; exact hjz)⟩
              · exact ⟨z, List.mem_cons_of_mem _ hz, kz, hcz, hjz⟩
          · rintro ⟨z, hz, kz, hcz, hjz⟩
            rcases List.mem_cons.1 hz with rfl | hz
            · rw [hcz.det hL (.upd i r _ g gv gt gk gp ks' c)] at hjz
              rcases List.mem_cons.1 hjz with rfl | hjz
              · exact .inl rfl
              · exact .inr ⟨_, hperm.mem_iff.2 List.mem_cons_self, ks', c, hjz⟩
            · exact .inr ⟨z, hperm.mem_iff.2 (List.mem_cons_of_mem _ hz), kz, hcz, hjz⟩
        · rw [hlen] at h3
          cases hcomp using Comp.ind with
          | upd _ g2 c2 cur htk =>
            have := h3 (Rs ++ [r]) n (.clr O Rs n r g2 c2 cur he (hrun.keeps _ List.mem_cons_self) htk)
            rw [List.map_cons, lnAt_eq hi]
            rw [List.append_assoc] at this
            exact this
          | not h => exact absurd gk h
      | .inr (.inr ⟨i', r', g, gv, gt, gk, gp, c⟩) =>
        obtain ⟨rfl, rfl⟩ := hL.inj hi g (hv.trans gv.symm)
        have hgo' : r.goesOn = r.next := by unfold Ln.goesOn; rw [if_pos gk]
        rw [hgo'] at hperm hlen hheap hids ih
        obtain ⟨op, h1, h2, h3⟩ := ih hheap hids (fun z hz => by
          rcases List.mem_cons.1 (hperm.mem_iff.1 hz) with rfl | hz
          · exact ⟨ks, c⟩
          · exact hcT z hz)
        refine ⟨op, h1, fun j => ?_, fun Rs n he => ?_⟩
        · rw [h2]
          constructor
          · rintro ⟨z, hz, kz, hcz, hjz⟩
            rcases List.mem_cons.1 (hperm.mem_iff.1 hz) with rfl | hz
            · exact ⟨y, List.mem_cons_self, ks, .clr i r _ g gv gt gk gp ks c, by rw [← hcz.det hL c]; exact hjz⟩
            · exact ⟨z, List.mem_cons_of_mem _ hz, kz, hcz, hjz⟩
          · rintro ⟨z, hz, kz, hcz, hjz⟩
            rcases List.mem_cons.1 hz with rfl | hz
            · rw [hcz.det hL (.clr i r _ g gv gt gk gp ks c)] at hjz
              exact ⟨_, hperm.mem_iff.2 List.mem_cons_self, ks, c, hjz⟩
            · exact ⟨z, hperm.mem_iff.2 (List.mem_cons_of_mem _ hz), kz, hcz, hjz⟩
        · rw [hlen] at h3
          cases hcomp using Comp.ind with
          | upd h => omega
          | not h => exact h3 Rs n he
end Go.Proofs.Ytpjppolbkdnkaaa
namespace Go.Proofs.Ytpjppolbkdnkaaa
open Go.RowKit
set_option linter.unusedVariables false
set_option linter.unusedSimpArgs false

/-- An update of t that none of t's compensations behind it has undone. -/
def OpenIn (L : List Ln) (t : Int) (i : Nat) : Prop := ∃ r, L[i]? = some r ∧ r.kind = 2 ∧ r.txn = t ∧ ∀ (k : Nat) (x : Ln), i < k → L[k]? = some x → x.kind = 3 → x.txn = t → r.lsn ≤ x.next
theorem snoc_get {L : List Ln} {r x : Ln} {i : Nat} (h : (L ++ [r])[i]? = some x) : L[i]? = some x ∨ (i = L.length ∧ x = r) := by
  by_cases hi : i < L.length
  · rw [List.getElem?_append_left hi] at h; exact .inl h
  · rw [List.getElem?_append_right (by omega)] at h
    have h0 : i - L.length = 0 := by
      have := (List.getElem?_eq_some_iff.1 h).1
      simp at this
      omega
    rw [h0] at h
    simp at h
    exact .inr ⟨by omega, h.symm⟩
theorem snoc_old {L : List Ln} {x : Ln} {i : Nat} (r : Ln) (h : L[i]? = some x) : (L ++ [r])[i]? = some x := by
  rw [List.getElem?_append_left (List.getElem?_eq_some_iff.1 h).1]; exact h
theorem snoc_new (L : List Ln) (r : Ln) : (L ++ [r])[L.length]? = some r := List.getElem?_concat_length
theorem OpenIn.other {L : List Ln} {r : Ln} {t : Int} (h : r.txn ≠ t) (i : Nat) : OpenIn (L ++ [r]) t i ↔ OpenIn L t i := by
  constructor
  · rintro ⟨x, hx, h1, h2, h3⟩
    rcases snoc_get hx with hx | ⟨_, rfl⟩
    · exact ⟨x, hx, h1, h2, fun k y hk hy => h3 k y hk (snoc_old r hy)⟩
    · exact absurd h2 h
  · rintro ⟨x, hx, h1, h2, h3⟩
    refine ⟨x, snoc_old r hx, h1, h2, fun k y hk hy h4 h5 => ?_⟩
    rcases snoc_get hy with hy | ⟨_, rfl⟩
    · exact h3 k y hk hy h4 h5
    · exact absurd h5 h
structure HCt (S : Hs) (t : Nat) : Prop where
  zero : S.lastAt t = 0 → S.doneAt t = false ∧ S.todoAt t = [] ∧ ∀ x ∈ S.L, x.txn ≠ (t : Int)
  top : ∀ x ∈ S.L, x.txn = (t : Int) → x.lsn ≤ S.lastAt t
  done : S.doneAt t = true ↔ ∃ x ∈ S.L, x.kind = 4 ∧ x.txn = (t : Int)
  chain : S.lastAt t ≠ 0 → S.doneAt t = false → ∃ ns : List Nat, S.todoAt t = ns.map (fun n : Nat => (n : Int)) ∧ ns.Pairwise (· < ·) ∧ Chain S.L t (S.lastAt t) ns.reverse ∧ ∀ i, i ∈ ns ↔ OpenIn S.L t i
  T : (anaOf S.L).T t = if S.lastAt t = 0 then none else some ⟨t, S.lastAt t, if S.doneAt t = true then 2 else 1⟩
structure HC (S : Hs) : Prop where
  ok : HOk S
  ls : HLs S
  prevs : ∀ (i k : Nat) (x y : Ln), i < k → S.L[i]? = some x → S.L[k]? = some y → x.txn = y.txn → x.lsn ≤ y.prev
  fin : ∀ (i k : Nat) (x y : Ln), S.L[i]? = some x → S.L[k]? = some y → x.kind = 4 → x.txn = y.txn → k ≤ i
  at' : ∀ t : Nat, 1 ≤ t → t ≤ 4 → HCt S t
theorem anaOf_snoc (L : List Ln) (r : Ln) : anaOf (L ++ [r]) = learn1 (anaOf L) r := learnN_snoc _ L r
theorem learn1_T_ne (s : An) (r : Ln) (k : Int) (h : r.txn ≠ k) : (learn1 s r).T k = s.T k := by
  have hk : ¬ k = r.txn := fun e => h e.symm
  unfold learn1
  simp only
  split
  · unfold follow1
    split
    · simp [updT, hk]
    · split
      · simp [updT, hk]
      · split
        · simp [delT, hk]
        · simp [updT, hk]
  · rfl
theorem learn1_T_eq (s : An) (r : Ln) (h0 : 0 < r.txn) (hk : 1 ≤ r.kind ∧ r.kind ≤ 4) : (learn1 s r).T r.txn = some (if r.kind = 4 then { seenT s.T r with st := 2 } else seenT s.T r) := by
  unfold learn1
  simp only
  rw [if_pos (by omega)]
  unfold follow1
  by_cases h4 : r.kind = 4
  · rw [if_pos h4, if_pos h4]; simp [updT]
  · rw [if_neg h4, if_neg h4, if_neg (by omega), if_neg (by omega)]; simp [updT]
theorem HC.init : HC Hs.init where
  ok := HOk.init
  ls := HLs.init
  prevs := fun i k x y _ hx => by simp [Hs.init] at hx
  fin := fun i k x y hx => by simp [Hs.init] at hx
  at' := fun t h1 h2 => by
    have e1 : Hs.init.lastAt t = 0 := by
      match t, h1, h2 with
      | 1, _, _ => rfl
      | 2, _, _ => rfl
      | 3, _, _ => rfl
      | 4, _, _ => rfl
    have e2 : Hs.init.doneAt t = false := by
      match t, h1, h2 with
      | 1, _, _ => rfl
      | 2, _, _ => rfl
      | 3, _, _ => rfl
      | 4, _, _ => rfl
    have e3 : Hs.init.todoAt t = [] := by
      match t, h1, h2 with
      | 1, _, _ => rfl
      | 2, _, _ => rfl
      | 3, _, _ => rfl
      | 4, _, _ => rfl
    refine ⟨fun _ => ⟨e2, e3, by simp [Hs.init]⟩, by simp [Hs.init], ?_, fun h => absurd e1 h, ?_⟩
    · rw [e2]; simp [Hs.init]
    · rw [e1, if_pos rfl]; rfl
theorem set_lastAt {l : List Int} {t0 t : Nat} {v : Int} (h : t0 < l.length) : (l.set t0 v).getD t 0 = if t = t0 then v else l.getD t 0 := by
  rw [List.getD_eq_getElem?_getD, List.getD_eq_getElem?_getD]
  by_cases e : t = t0
  · subst e
    rw [List.getElem?_set_self h, if_pos rfl]; rfl
  · rw [List.getElem?_set_ne (Ne.symm e), if_neg e]
/-- What one more record does. -/
theorem HC.put {S S2 : Hs} {t0 : Nat} {r : Ln} (h : HC S) (ok' : HOk (S2.put t0 r)) (ls' : HLs (S2.put t0 r)) (h1 : 1 ≤ t0) (h4 : t0 ≤ 4) (e1 : S2.L = S.L) (e2 : S2.last = S.last) (hnd : S.doneAt t0 = false)
    (hdo : ∀ t, t ≠ t0 → S2.doneAt t = S.doneAt t) (hto : ∀ t, t ≠ t0 → S2.todoAt t = S.todoAt t) (hr : Hl S.L.length r) (ht : r.txn = (t0 : Int)) (hp : r.prev = S.lastAt t0)
    (hd0 : S2.doneAt t0 = true ↔ r.kind = 4)
    (hch : r.kind ≠ 4 → ∃ ns : List Nat, S2.todoAt t0 = ns.map (fun n : Nat => (n : Int)) ∧ ns.Pairwise (· < ·) ∧ Chain (S.L ++ [r]) t0 r.lsn ns.reverse ∧ ∀ i, i ∈ ns ↔ OpenIn (S.L ++ [r]) t0 i) : HC (S2.put t0 r) := by
  have eL : (S2.put t0 r).L = S.L ++ [r] := by show S2.L ++ [r] = _; rw [e1]
  have el : ∀ t, (S2.put t0 r).lastAt t = if t = t0 then r.lsn else S.lastAt t := fun t => by
    show (S2.last.set t0 r.lsn).getD t 0 = _
    rw [e2, set_lastAt (by rw [h.ok.n4]; omega)]
    rfl
  have ed : ∀ t, (S2.put t0 r).doneAt t = S2.doneAt t := fun _ => rfl
  have et : ∀ t, (S2.put t0 r).todoAt t = S2.todoAt t := fun _ => rfl
  have hrl := hr.lsn
  have hold := h.at' t0 h1 h4
  refine ⟨ok', ls', ?_, ?_, fun t a1 a4 => ?_⟩
  · intro i k x y hik hx hy hxy
    rw [eL] at hx hy
    rcases snoc_get hy with hy1 | ⟨ey1, ey2⟩
    · rcases snoc_get hx with hx1 | ⟨ex1, ex2⟩
      · exact h.prevs i k x y hik hx1 hy1 hxy
      · have := (List.getElem?_eq_some_iff.1 hy1).1
        omega
    · rcases snoc_get hx with hx1 | ⟨ex1, ex2⟩
      · rw [ey2, hp]
        exact hold.top x (List.mem_of_getElem? hx1) (hxy.trans (by rw [ey2]; exact ht))
      · omega
  · intro i k x y hx hy hk hxy
    rw [eL] at hx hy
    rcases snoc_get hx with hx1 | ⟨ex1, ex2⟩
    · rcases snoc_get hy with hy1 | ⟨ey1, ey2⟩
      · exact h.fin i k x y hx1 hy1 hk hxy
      · have := hold.done.2 ⟨x, List.mem_of_getElem? hx1, hk, hxy.trans (by rw [ey2]; exact ht)⟩
        rw [hnd] at this; cases this
    · rcases snoc_get hy with hy1 | ⟨ey1, ey2⟩
      · have := (List.getElem?_eq_some_iff.1 hy1).1
        omega
      · omega
  · by_cases htt : t = t0
    · subst htt
      refine ⟨fun hz => ?_, fun x hx hxt => ?_, ?_, fun _ hdn => ?_, ?_⟩
      · rw [el, if_pos rfl] at hz; omega
      · rw [el, if_pos rfl]
        rw [eL] at hx
        obtain ⟨i, hi⟩ := List.mem_iff_getElem?.1 hx
        rcases snoc_get hi with hi | ⟨_, rfl⟩
        · have a := (h.ls.L i x hi).lsn
          have := (List.getElem?_eq_some_iff.1 hi).1
          omega
        · exact Int.le_refl _
      · rw [ed, hd0, eL]
        constructor
        · exact fun hk => ⟨r, by simp, hk, ht⟩
        · rintro ⟨x, hx, hk, hxt⟩
          rcases List.mem_append.1 hx with hx | hx
          · have := hold.done.2 ⟨x, hx, hk, hxt⟩
            rw [hnd] at this; cases this
          · simp at hx; subst hx; exact hk
      · rw [ed] at hdn
        have hk4 : r.kind ≠ 4 := fun e => by rw [hd0.2 e] at hdn; cases hdn
        rw [el, if_pos rfl, eL, et]
        exact hch hk4
      · rw [eL, anaOf_snoc, ← ht, learn1_T_eq _ r (by have := hr.t1; omega) ⟨hr.k1, hr.k2⟩]
        have hT := hold.T
        have hseen : seenT (anaOf S.L).T r = ⟨r.txn, r.lsn, 1⟩ := by
          unfold seenT
          rw [ht, hT, hnd]
          split <;> rfl
        rw [hseen, el, if_pos rfl, ed]
        have hl0 : ¬ r.lsn = 0 := by omega
        rw [if_neg hl0]
        by_cases hk : r.kind = 4
        · rw [if_pos hk, hd0.2 hk, if_pos rfl]
        · rw [if_neg hk, if_neg (fun e => hk (hd0.1 e))]
    · have o := h.at' t a1 a4
      have hne : r.txn ≠ (t : Int) := by rw [ht]; omega
      refine ⟨fun hz => ?_, fun x hx hxt => ?_, ?_, fun hz hdn => ?_, ?_⟩
      · rw [el, if_neg htt] at hz
        obtain ⟨b1, b2, b3⟩ := o.zero hz
        refine ⟨by rw [ed, hdo t htt]; exact b1, by rw [et, hto t htt]; exact b2, fun x hx => ?_⟩
        rw [eL] at hx
        rcases List.mem_append.1 hx with hx | hx
        · exact b3 x hx
        · simp at hx; subst hx; exact hne
      · rw [el, if_neg htt]
        rw [eL] at hx
        rcases List.mem_append.1 hx with hx | hx
        · exact o.top x hx hxt
        · simp at hx; subst hx; exact absurd hxt hne
      · rw [ed, hdo t htt, o.done, eL]
        constructor
        · rintro ⟨x, hx, hk⟩; exact ⟨x, List.mem_append_left _ hx, hk⟩
        · rintro ⟨x, hx, hk, hxt⟩
          rcases List.mem_append.1 hx with hx | hx
          · exact ⟨x, hx, hk, hxt⟩
          · simp at hx; subst hx; exact absurd hxt hne
      · rw [el, if_neg htt] at hz
        rw [ed, hdo t htt] at hdn
        obtain ⟨ns, c1, c2, c3, c4⟩ := o.chain hz hdn
        refine ⟨ns, by rw [et, hto t htt]; exact c1, c2, ?_, fun i => ?_⟩
        · rw [el, if_neg htt, eL]; exact c3.more r
        · rw [c4, eL, OpenIn.other hne]
      · rw [eL, anaOf_snoc, learn1_T_ne _ r _ hne, o.T, el, if_neg htt, ed, hdo t htt]
theorem set_at_ne {α : Type} {l : List α} {t0 t : Nat} {v d : α} (e : t ≠ t0) : (l.set t0 v).getD t d = l.getD t d := by
  rw [List.getD_eq_getElem?_getD, List.getD_eq_getElem?_getD, List.getElem?_set_ne (Ne.symm e)]
theorem set_at_eq {α : Type} {l : List α} {t0 : Nat} {v d : α} (h : t0 < l.length) : (l.set t0 v).getD t0 d = v := by
  rw [List.getD_eq_getElem?_getD, List.getElem?_set_self h]; rfl
theorem HC.step {i : Nat} {x : St} {S S' : Hs} {K K' : List (Nat × Obj)} (h : HC S) (hs : HStep i x S K S' K') : HC S' := by
  have ht := tOf_le x
  have ok' := h.ok.step hs
  have ls' := h.ls.step hs
  have hpv := fun (r : Ln) (e : r = r) => (h.ls.put (S2 := S) rfl rfl (t := 0) (r := r))
  cases hs using HStep.ind with
  | skip => exact h
  | begin hd hl =>
    have o := h.at' (tOf x) ht.1 ht.2
    obtain ⟨z1, z2, z3⟩ := o.zero hl
    have hr : Hl S.L.length { S.rec0 (tOf x) with kind := 1 } := ls'.L _ _ (snoc_new S.L _)
    refine h.put (S2 := S) ok' ls' ht.1 ht.2 rfl rfl hd (fun _ _ => rfl) (fun _ _ => rfl) hr rfl rfl ?_ (fun _ => ⟨[], z2, List.Pairwise.nil, ?_, fun j => ?_⟩)
    · rw [hd]; simp
    · exact .begin S.L.length _ _ (snoc_new _ _) rfl rfl rfl hl
    · constructor
      · intro hj; cases hj
      · rintro ⟨y, hy, k1, k2, _⟩
        rcases snoc_get hy with hy | ⟨_, rfl⟩
        · exact absurd k2 (z3 y (List.mem_of_getElem? hy))
        · cases k1
  | commit hd hl hk =>
    have hr : Hl S.L.length { S.rec0 (tOf x) with kind := 4 } := ls'.L _ _ (snoc_new S.L _)
    refine h.put (S2 := { S with done := S.done.set (tOf x) true }) ok' ls' ht.1 ht.2 rfl rfl hd (fun t e => set_at_ne e) (fun _ _ => rfl) hr rfl rfl ?_ (fun e => absurd rfl e)
    have : Hs.doneAt { S with done := S.done.set (tOf x) true } (tOf x) = true := set_at_eq (by rw [h.ok.n5]; omega)
    rw [this]; simp
  | undo hd hl hk l k u e hu =>
    have o := h.at' (tOf x) ht.1 ht.2
    obtain ⟨ns, c1, c2, c3, c4⟩ := o.chain hl hd
    rw [e] at c1
    obtain ⟨ns0, rfl⟩ : ∃ ns0, ns = ns0 ++ [k] := by
      have hne : ns ≠ [] := fun e => by rw [e] at c1; simp at c1
      refine ⟨ns.dropLast, ?_⟩
      have h1 := List.dropLast_concat_getLast hne
      have h2 : ns.getLast hne = k := by
        have h3 := congrArg List.getLast? c1
        rw [List.getLast?_concat, List.getLast?_map, List.getLast?_eq_some_getLast hne] at h3
        simp at h3
        omega
      rw [h2] at h1
      exact h1.symm
    rw [List.map_append] at c1
    have el : l = ns0.map (fun n : Nat => (n : Int)) := (List.append_inj' c1 rfl).1
    rw [List.reverse_append] at c3
    obtain ⟨u', hu', k2, kt, kp1, kp2, kc⟩ := c3.tail
    rw [hu] at hu'
    injection hu' with hu'
    subst hu'
    have hr : Hl S.L.length { S.rec0 (tOf x) with kind := 3, page := u.page, off := u.off, sa := u.sb, next := u.prev } := ls'.L _ _ (snoc_new S.L _)
    have hkl := (List.getElem?_eq_some_iff.1 hu).1
    have hul := (h.ls.L k u hu).lsn
    refine h.put (S2 := { S with todo := S.todo.set (tOf x) l }) ok' ls' ht.1 ht.2 rfl rfl hd (fun _ _ => rfl) (fun t e => set_at_ne e) hr rfl rfl ?_ (fun _ => ⟨ns0, ?_, ?_, ?_, fun j => ?_⟩)
    · show S.doneAt (tOf x) = true ↔ _
      rw [hd]; simp
    · show (S.todo.set (tOf x) l).getD (tOf x) [] = _
      rw [set_at_eq (by rw [h.ok.nt]; omega), el]
    · exact (List.pairwise_append.1 c2).1
    · have hrl := hr.lsn
      exact .clr S.L.length _ _ (snoc_new _ _) rfl rfl rfl ⟨kp1, by show u.prev < S.lsn; unfold Hs.lsn; omega⟩ _ (kc.more _)
    · constructor
      · intro hj
        obtain ⟨y, hy, b1, b2, b3⟩ := (c4 j).1 (List.mem_append_left _ hj)
        refine ⟨y, snoc_old _ hy, b1, b2, fun q z hq hz z3 zt => ?_⟩
        rcases snoc_get hz with hz | ⟨_, rfl⟩
        · exact b3 q z hq hz z3 zt
        · show y.lsn ≤ u.prev
          exact h.prevs j k y u ((List.pairwise_append.1 c2).2.2 j hj k (by simp)) hy hu (b2.trans kt.symm)
      · rintro ⟨y, hy, b1, b2, b3⟩
        rcases snoc_get hy with hy | ⟨_, rfl⟩
        · have hin : j ∈ ns0 ++ [k] := (c4 j).2 ⟨y, hy, b1, b2, fun q z hq hz => b3 q z hq (snoc_old _ hz)⟩
          rcases List.mem_append.1 hin with hin | hin
          · exact hin
          · simp at hin
            subst hin
            rw [hu] at hy
            injection hy with hy
            subst hy
            have : u.lsn ≤ u.prev := b3 S.L.length _ hkl (snoc_new _ _) rfl rfl
            omega
        · cases b1
  | update hd hl hk hk3 g1 g2 =>
    have o := h.at' (tOf x) ht.1 ht.2
    obtain ⟨ns, c1, c2, c3, c4⟩ := o.chain hl hd
    have hr : Hl S.L.length { S.rec0 (tOf x) with kind := 2, page := bits .and .i64 x.page 3, off := bits .and .i64 x.off 7, sb := oneSv g1, sa := oneSv g2 } := ls'.L _ _ (snoc_new S.L _)
    have hla := h.ls.lastAt (tOf x)
    have hlt : ∀ j ∈ ns, j < S.L.length := fun j hj => by
      obtain ⟨y, hy, _⟩ := (c4 j).1 hj
      exact (List.getElem?_eq_some_iff.1 hy).1
    refine h.put (S2 := { S with todo := S.todo.set (tOf x) (S.todoAt (tOf x) ++ [(S.L.length : Int)]) }) ok' ls' ht.1 ht.2 rfl rfl hd (fun _ _ => rfl) (fun t e => set_at_ne e) hr rfl rfl ?_ (fun _ => ⟨ns ++ [S.L.length], ?_, ?_, ?_, fun j => ?_⟩)
    · show S.doneAt (tOf x) = true ↔ _
      rw [hd]; simp
    · show (S.todo.set (tOf x) _).getD (tOf x) [] = _
      rw [set_at_eq (by rw [h.ok.nt]; omega), c1]; simp
    · exact List.pairwise_append.2 ⟨c2, by simp, fun a ha b hb => by simp at hb; subst hb; exact hlt a ha⟩
    · rw [List.reverse_append]
      exact .upd S.L.length _ _ (snoc_new _ _) rfl rfl rfl ⟨by show 0 < S.lastAt (tOf x); omega, by show S.lastAt (tOf x) < S.lsn; unfold Hs.lsn; omega⟩ _ (c3.more _)
    · constructor
      · intro hj
        rcases List.mem_append.1 hj with hj | hj
        · obtain ⟨y, hy, b1, b2, b3⟩ := (c4 j).1 hj
          refine ⟨y, snoc_old _ hy, b1, b2, fun q z hq hz z3 zt => ?_⟩
          rcases snoc_get hz with hz | ⟨_, rfl⟩
          · exact b3 q z hq hz z3 zt
          · cases z3
        · simp at hj
          subst hj
          refine ⟨_, snoc_new _ _, rfl, rfl, fun q z hq hz => ?_⟩
          have := (List.getElem?_eq_some_iff.1 hz).1
          simp at this
          omega
      · rintro ⟨y, hy, b1, b2, b3⟩
        rcases snoc_get hy with hy | ⟨rfl, rfl⟩
        · exact List.mem_append_left _ ((c4 j).2 ⟨y, hy, b1, b2, fun q z hq hz => b3 q z hq (snoc_old _ hz)⟩)
        · simp
theorem HRun.hc {X : List St} {i : Nat} {S : Hs} {K : List (Nat × Obj)} (h : HRun X i S K) : HC S := by
  induction h using HRun.ind with
  | nil => exact HC.init
  | step i x S K S' K' h hx hs ih => exact ih.step hs
end Go.Proofs.Ytpjppolbkdnkaaa
namespace Go.Proofs.Ytpjppolbkdnkaaa
open Go.RowKit
set_option linter.unusedVariables false
set_option linter.unusedSimpArgs false

def wins (r x : Ln) : Bool := x.kind == 4 && x.txn == r.txn
def goes (r x : Ln) : Bool := x.kind == 3 && x.txn == r.txn && decide (x.next < r.lsn)
/-- What the law itself finds open. -/
def isOpen (L : List Ln) (i : Nat) : Bool := match L[i]? with
  | some r => r.kind == 2 && !(L.drop (i + 1)).any (wins r) && (L.drop (i + 1)).countP (goes r) == 0
  | none => false
theorem mem_drop_iff {L : List Ln} {i : Nat} {x : Ln} : x ∈ L.drop (i + 1) ↔ ∃ k, i < k ∧ L[k]? = some x := by
  constructor
  · intro h
    obtain ⟨j, hj⟩ := List.mem_iff_getElem?.1 h
    rw [List.getElem?_drop] at hj
    exact ⟨i + 1 + j, by omega, hj⟩
  · rintro ⟨k, hk, h⟩
    refine List.mem_iff_getElem?.2 ⟨k - (i + 1), ?_⟩
    rw [List.getElem?_drop]
    rw [show i + 1 + (k - (i + 1)) = k by omega]
    exact h
theorem isOpen_iff {S : Hs} (h : HC S) (j : Nat) : isOpen S.L j = true ↔ ∃ t : Nat, 1 ≤ t ∧ t ≤ 4 ∧ S.lastAt t ≠ 0 ∧ S.doneAt t = false ∧ OpenIn S.L t j := by
  constructor
  · intro ho
    unfold isOpen at ho
    cases hj : S.L[j]? with
    | none => rw [hj] at ho; cases ho
    | some r =>
      rw [hj] at ho
      simp only [Bool.and_eq_true, Bool.not_eq_true', beq_iff_eq, List.any_eq_false, List.countP_eq_zero] at ho
      obtain ⟨⟨hk, hw⟩, hg⟩ := ho
      have hl := h.ls.L j r hj
      have e : ((r.txn.toNat : Nat) : Int) = r.txn := by have := hl.t1; omega
      have a1 : 1 ≤ r.txn.toNat := by have := hl.t1; omega
      have a4 : r.txn.toNat ≤ 4 := by have := hl.t2; omega
      have o := h.at' _ a1 a4
      refine ⟨r.txn.toNat, a1, a4, fun hz => ?_, ?_, ?_⟩
      · exact (o.zero hz).2.2 r (List.mem_of_getElem? hj) e.symm
      · cases hd : S.doneAt r.txn.toNat with
        | false => rfl
        | true =>
          obtain ⟨x, hx, x4, xt⟩ := o.done.1 hd
          obtain ⟨i, hi⟩ := List.mem_iff_getElem?.1 hx
          have h1 := h.fin i j x r hi hj x4 (xt.trans e)
          have h2 : i ≠ j := fun e => by subst e; rw [hi] at hj; injection hj with hj; subst hj; omega
          have := hw x (mem_drop_iff.2 ⟨i, by omega, hi⟩)
          simp [wins, x4, xt.trans e] at this
      · rw [e]
        refine ⟨r, hj, hk, rfl, fun k x hjk hx x3 xt => ?_⟩
        have := hg x (mem_drop_iff.2 ⟨k, hjk, hx⟩)
        simp [goes, x3, xt] at this
        omega
  · rintro ⟨t, a1, a4, hz, hd, r, hj, hk, ht, hg⟩
    have o := h.at' t a1 a4
    unfold isOpen
    rw [hj]
    simp only [Bool.and_eq_true, Bool.not_eq_true', beq_iff_eq, List.any_eq_false, List.countP_eq_zero]
    refine ⟨⟨hk, fun x hx => ?_⟩, fun x hx => ?_⟩
    · intro hw
      simp only [wins, Bool.and_eq_true, beq_iff_eq] at hw
      have := o.done.2 ⟨x, List.mem_of_mem_drop hx, hw.1, hw.2.trans ht⟩
      rw [hd] at this; cases this
    · intro hgo
      simp only [goes, Bool.and_eq_true, beq_iff_eq, decide_eq_true_eq] at hgo
      obtain ⟨k, hjk, hx⟩ := mem_drop_iff.1 hx
      have := hg k x hjk hx hgo.1.1 (hgo.1.2.trans ht)
      omega
theorem desc_ext : ∀ (a b : List Nat), a.Pairwise (fun x y => y < x) → b.Pairwise (fun x y => y < x) → (∀ j, j ∈ a ↔ j ∈ b) → a = b
  | [], [], _, _, _ => rfl
  | [], y :: b, _, _, h => by have := (h y).2 List.mem_cons_self; cases this
  | x :: a, [], _, _, h => by have := (h x).1 List.mem_cons_self; cases this
  | x :: a, y :: b, ha, hb, h => by
    rw [List.pairwise_cons] at ha hb
    have e : x = y := by
      rcases List.mem_cons.1 ((h x).1 List.mem_cons_self) with e | h1
      · exact e
      · rcases List.mem_cons.1 ((h y).2 List.mem_cons_self) with e | h2
        · exact e.symm
        · have := hb.1 x h1
          have := ha.1 y h2
          omega
    subst e
    rw [desc_ext a b ha.2 hb.2 (fun j => ?_)]
    constructor
    · intro hj
      rcases List.mem_cons.1 ((h j).1 (List.mem_cons_of_mem _ hj)) with e | h1
      · subst e
        have := ha.1 _ hj
        omega
      · exact h1
    · intro hj
      rcases List.mem_cons.1 ((h j).2 (List.mem_cons_of_mem _ hj)) with e | h1
      · subst e
        have := hb.1 _ hj
        omega
      · exact h1
/-- The open places from m on, the greatest first. -/
def opens (L : List Ln) (m : Nat) : List Nat := ((List.range' m (L.length - m)).filter (isOpen L)).reverse
theorem opens_end (L : List Ln) : opens L L.length = [] := by unfold opens; simp
theorem opens_step (L : List Ln) (m : Nat) (h : m < L.length) : opens L m = opens L (m + 1) ++ (if isOpen L m then [m] else []) := by
  unfold opens
  have e : L.length - m = (L.length - (m + 1)) + 1 := by omega
  rw [e, List.range'_succ, List.filter_cons]
  split
  · rw [List.reverse_cons]
  · rw [List.append_nil]
theorem opens_desc (L : List Ln) (m : Nat) : (opens L m).Pairwise (fun x y => y < x) := by
  unfold opens
  rw [List.pairwise_reverse]
  exact List.Pairwise.filter _ List.pairwise_lt_range'
theorem opens_mem (L : List Ln) (j : Nat) : j ∈ opens L 0 ↔ isOpen L j = true := by
  unfold opens
  rw [List.mem_reverse, List.mem_filter]
  constructor
  · exact fun h => h.2
  · intro h
    refine ⟨?_, h⟩
    rw [List.mem_range'_1]
    unfold isOpen at h
    cases hj : L[j]? with
    | none => rw [hj] at h; cases h
    | some r => have := (List.getElem?_eq_some_iff.1 hj).1; omega
def losOf (t : Tx) : Los := ⟨t.id, t.last⟩
def isLost (t : Tx) : Bool := t.st != 2
theorem loseN_lost : ∀ (ts : List Tx) (s : List Los × List Ln), (∀ t ∈ ts, 0 < t.last) → IsHeap s.1 s.1.length →
    IsHeap (loseN pushL s ts).1 (loseN pushL s ts).1.length ∧ (loseN pushL s ts).2 = s.2 ∧ (loseN pushL s ts).1.Perm (((ts.filter isLost).map losOf).reverse ++ s.1)
  | [], s, _, h => ⟨h, rfl, by simp [loseN]⟩
  | t :: ts, s, hl, h => by
    have e : loseN pushL s (t :: ts) = loseN pushL (lose1 pushL s t) ts := rfl
    rw [e]
    have hl' : ∀ t ∈ ts, 0 < t.last := fun u hu => hl u (List.mem_cons_of_mem _ hu)
    have h0 := hl t List.mem_cons_self
    by_cases hs : t.st = 2
    · have e1 : lose1 pushL s t = s := by unfold lose1; rw [if_pos hs]
      have e2 : (t :: ts).filter isLost = ts.filter isLost := by rw [List.filter_cons]; simp [isLost, hs]
      rw [e1, e2]
      exact loseN_lost ts s hl' h
    · have e1 : lose1 pushL s t = (pushL s.1 (losOf t), s.2) := by unfold lose1; rw [if_neg hs, if_neg (by omega)]; rfl
      have e2 : (t :: ts).filter isLost = t :: ts.filter isLost := by rw [List.filter_cons]; simp [isLost, hs]
      rw [e1, e2]
      obtain ⟨a, b, c⟩ := loseN_lost ts (pushL s.1 (losOf t), s.2) hl' (pushL_heap s.1 (losOf t) h)
      refine ⟨a, b, c.trans ?_⟩
      rw [List.map_cons, List.reverse_cons, List.append_assoc]
      exact List.Perm.append_left _ (pushL_perm s.1 (losOf t))
/-- What is told of the transactions. -/
theorem tell {S : Hs} (h : HC S) {ts : List Tx} (ht : TxnsOf (anaOf S.L).T ts) : (ts.map Tx.id).Nodup ∧ (∀ y ∈ ts, ∃ t : Nat, 1 ≤ t ∧ t ≤ 4 ∧ S.lastAt t ≠ 0 ∧ y = ⟨t, S.lastAt t, if S.doneAt t = true then 2 else 1⟩) ∧
    (∀ t : Nat, 1 ≤ t → t ≤ 4 → S.lastAt t ≠ 0 → (⟨t, S.lastAt t, if S.doneAt t = true then 2 else 1⟩ : Tx) ∈ ts) := by
  obtain ⟨ss, ⟨ks, h1, h2, h3, h4⟩, hp, _⟩ := ht
  have hin : ∀ k ∈ ks, ∃ t : Nat, 1 ≤ t ∧ t ≤ 4 ∧ S.lastAt t ≠ 0 ∧ k = (t : Int) ∧ (anaOf S.L).T k = some ⟨t, S.lastAt t, if S.doneAt t = true then 2 else 1⟩ := fun k hk => by
    have h5 : ((anaOf S.L).T k).isSome = true := by
      have : (anaOf S.L).T k ∈ ks.map (anaOf S.L).T := List.mem_map.2 ⟨k, hk, rfl⟩
      rw [h2] at this
      obtain ⟨y, _, e⟩ := List.mem_map.1 this
      rw [← e]; rfl
    rcases learnN_T k S.L _ h5 with h6 | ⟨x, hx, rfl⟩
    · simp [noTx] at h6
    · obtain ⟨i, hi⟩ := List.mem_iff_getElem?.1 hx
      have hl := h.ls.L i x hi
      have e : ((x.txn.toNat : Nat) : Int) = x.txn := by have := hl.t1; omega
      have a1 : 1 ≤ x.txn.toNat := by have := hl.t1; omega
      have a4 : x.txn.toNat ≤ 4 := by have := hl.t2; omega
      have o := h.at' _ a1 a4
      have hz : S.lastAt x.txn.toNat ≠ 0 := fun hz => (o.zero hz).2.2 x hx e.symm
      refine ⟨x.txn.toNat, a1, a4, hz, e.symm, ?_⟩
      have hT := o.T
      rw [if_neg hz, e] at hT
      rw [e]
      exact hT
  have hids : ss.map Tx.id = ks := by
    have h6 : (ss.map some).map (fun y : Option Tx => (y.map Tx.id).getD 0) = (ks.map (anaOf S.L).T).map (fun y : Option Tx => (y.map Tx.id).getD 0) := by rw [h2]
    rw [List.map_map, List.map_map] at h6
    have h7 : ss.map ((fun y : Option Tx => (y.map Tx.id).getD 0) ∘ some) = ss.map Tx.id := List.map_congr_left (fun y _ => rfl)
    have h8 : ks.map ((fun y : Option Tx => (y.map Tx.id).getD 0) ∘ (anaOf S.L).T) = ks.map id := List.map_congr_left (fun k hk => by
      obtain ⟨t, _, _, _, e, eT⟩ := hin k hk
      show (((anaOf S.L).T k).map Tx.id).getD 0 = k
      rw [eT, e]; rfl)
    rw [h7, h8, List.map_id] at h6
    exact h6
  refine ⟨(hp.map Tx.id).nodup_iff.2 (by rw [hids]; exact h1), fun y hy => ?_, fun t a1 a4 hz => ?_⟩
  · have hy' : some y ∈ ss.map some := List.mem_map.2 ⟨y, hp.mem_iff.1 hy, rfl⟩
    rw [← h2] at hy'
    obtain ⟨k, hk, e⟩ := List.mem_map.1 hy'
    obtain ⟨t, b1, b4, bz, _, eT⟩ := hin k hk
    rw [eT] at e
    injection e with e
    exact ⟨t, b1, b4, bz, e.symm⟩
  · have o := h.at' t a1 a4
    have hT := o.T
    rw [if_neg hz] at hT
    have hk := h4 (t : Int) (by unfold In64; omega) (by rw [hT]; rfl)
    have hm : (anaOf S.L).T t ∈ ks.map (anaOf S.L).T := List.mem_map.2 ⟨_, hk, rfl⟩
    rw [h2, hT] at hm
    obtain ⟨y, hy, e⟩ := List.mem_map.1 hm
    injection e with e
    rw [← e]
    exact hp.mem_iff.2 hy
theorem once_plain {S : Hs} (h : HC S) {ts : List Tx} (ht : TxnsOf (anaOf S.L).T ts) {bsOf : Ln → List Value} {O' : List Ln} {K' : List (Nat × Obj)}
    (hr : Run S.L bsOf popL fixL (loseN pushL ([], []) ts).1 (loseN pushL ([], []) ts).2 [] O' K') : Em bsOf K' O' ((opens S.L 0).map (lnAt S.L)) (ts.filter isLost).length := by
  obtain ⟨t1, t2, t3⟩ := tell h ht
  obtain ⟨a, b, c⟩ := loseN_lost ts ([], []) (fun y hy => by
    obtain ⟨t, b1, b4, bz, rfl⟩ := t2 y hy
    have := h.ls.lastAt t
    show 0 < S.lastAt t
    omega) (by intro k a b hk hkn; simp at hkn)
  rw [List.append_nil] at c
  have hmem : ∀ y, y ∈ (loseN pushL ([], []) ts).1 ↔ ∃ t : Nat, 1 ≤ t ∧ t ≤ 4 ∧ S.lastAt t ≠ 0 ∧ S.doneAt t = false ∧ y = ⟨t, S.lastAt t⟩ := fun y => by
    rw [c.mem_iff, List.mem_reverse, List.mem_map]
    constructor
    · rintro ⟨z, hz, rfl⟩
      obtain ⟨hz1, hz2⟩ := List.mem_filter.1 hz
      obtain ⟨t, b1, b4, bz, rfl⟩ := t2 z hz1
      refine ⟨t, b1, b4, bz, ?_, rfl⟩
      cases hd : S.doneAt t with
      | false => rfl
      | true => rw [hd] at hz2; simp [isLost] at hz2
    · rintro ⟨t, b1, b4, bz, hd, rfl⟩
      refine ⟨_, List.mem_filter.2 ⟨t3 t b1 b4 bz, ?_⟩, rfl⟩
      rw [hd]; rfl
  have hids : ((loseN pushL ([], []) ts).1.map Los.id).Nodup := by
    rw [perm_ids c, List.map_reverse, List.map_map]
    have e : (ts.filter isLost).map (Los.id ∘ losOf) = (ts.filter isLost).map Tx.id := rfl
    rw [e]
    refine (List.reverse_perm _).nodup_iff.2 ?_
    exact List.Nodup.sublist (List.filter_sublist.map _) t1
  obtain ⟨op, p1, p2, p3⟩ := run_em (fun i x hx => h.ls.L i x hx) hr a hids (fun y hy => by
    obtain ⟨t, b1, b4, bz, hd, rfl⟩ := (hmem y).1 hy
    obtain ⟨ns, _, _, c3, _⟩ := (h.at' t b1 b4).chain bz hd
    exact ⟨_, c3⟩)
  have e : op = opens S.L 0 := desc_ext _ _ p1 (opens_desc _ _) (fun j => by
    rw [p2, opens_mem, isOpen_iff h]
    constructor
    · rintro ⟨y, hy, ks, hk, hj⟩
      obtain ⟨t, b1, b4, bz, hd, rfl⟩ := (hmem y).1 hy
      obtain ⟨ns, _, _, c3, c4⟩ := (h.at' t b1 b4).chain bz hd
      have : ks = ns.reverse := hk.det (fun i x hx => h.ls.L i x hx) c3
      rw [this, List.mem_reverse] at hj
      exact ⟨t, b1, b4, bz, hd, (c4 j).1 hj⟩
    · rintro ⟨t, b1, b4, bz, hd, ho⟩
      obtain ⟨ns, _, _, c3, c4⟩ := (h.at' t b1 b4).chain bz hd
      exact ⟨⟨t, S.lastAt t⟩, (hmem _).2 ⟨t, b1, b4, bz, hd, rfl⟩, _, c3, List.mem_reverse.2 ((c4 j).2 ho)⟩)
  have := p3 [] 0 (by rw [b]; exact .nil)
  rw [e, List.nil_append, c.length_eq, List.length_reverse, List.length_map, Nat.zero_add] at this
  exact this
end Go.Proofs.Ytpjppolbkdnkaaa
namespace Go.Proofs.Ytpjppolbkdnkaaa
open Go.RowKit
set_option linter.unusedVariables false
set_option linter.unusedSimpArgs false

theorem linesOwn {w : World} {base : Nat} {a : Option Addr} {c : Nat} {M : List Ln} (h : w.ownsRow base 34 12 (.slice a M.length c) M.length (lnRow M)) (hok : ∀ x ∈ M, x.ok) (hl : M.length ≤ 1000000) : LinesAt w a M := by
  refine ⟨hl, fun i x hx => ⟨hok x (List.mem_of_getElem? hx), ?_⟩⟩
  have hi := (List.getElem?_eq_some_iff.1 hx).1
  obtain ⟨g, c', cur, e, h1, hg, _⟩ := own_some h (by omega)
  injection e with e1 e2 e3
  subst e1
  refine ⟨g, 0, rfl, (Array.getElem?_eq_some_iff.1 hg).1, ?_⟩
  rw [Nat.zero_add]
  exact row_range h i x hx
theorem anaOf_12F {L : List Ln} (h : ∀ (i : Nat) (x : Ln), L[i]? = some x → Hl i x) : ∀ ds, EntsD (anaOf L).F ds → ds.length ≤ 12 := fun ds hd => by
  have := nodup_le (ds.map Prod.fst) [0, 1, 2, 3] hd.1 (fun p hp => by
    obtain ⟨y, hy, rfl⟩ := List.mem_map.1 hp
    have h1 := (hd.2.1 y hy).2
    unfold anaOf at h1
    rw [learnN_F] at h1
    have h1 : firstOf y.1 L = some y.2 := h1
    obtain ⟨x, hx, e1, _⟩ := firstOf_some _ _ _ h1
    obtain ⟨i, hi⟩ := List.mem_iff_getElem?.1 hx
    have h2 := (h i x hi).p1
    have h3 := (h i x hi).p2
    rw [e1] at h2 h3
    simp
    omega)
  rw [List.length_map] at this
  simp at this
  omega
theorem analyzeL (w : World) (lg : Sv) (L : List Ln) (hln : lg.n = L.length) (hL : LinesAt w lg.a L) (hl : L.length ≤ 60) (hH : ∀ (i : Nat) (x : Ln), L[i]? = some x → Hl i x) :
    Calls Try.prog 9 #[.slice lg.a lg.n lg.c] w fun e w' => ∃ (at' : Option Addr) (ct : Nat) (ts : List Tx) (ad : Option Addr) (cd dn : Nat), e = .returned (.tuple #[.slice at' ts.length ct, .slice ad dn cd, .int .i64 (comN L)]) ∧
      TxnsOf (anaOf L).T ts ∧ ts.length ≤ 12 ∧ TxsAt w' at' ts ∧ Below w.heap.size w w' := by
  have hmem : ∀ x ∈ L, ∃ i, Hl i x := fun x hx => by
    obtain ⟨i, hi⟩ := List.mem_iff_getElem?.1 hx
    exact ⟨i, hH i x hi⟩
  have h12 := ana_12T (s := ⟨noTx, noMap, 0⟩) (Y := L) rfl (fun x hx => by obtain ⟨i, h⟩ := hmem x hx; exact ⟨h.t1, h.t2⟩)
  have hA := analyze_gen w lg (anaOf L) (fun x1 R bt bd X => by
    have hP := passA_any X L hln hL (fun x hx => by obtain ⟨i, h⟩ := hmem x hx; have := h.k2; omega) (by omega) (by omega) (by omega)
    refine hP.mono ?_
    rintro e w' ⟨rfl, n', m', h1, h2, h3⟩
    exact ⟨rfl, n', m', by omega, by omega, h3⟩) h12 (anaOf_12F hH)
  refine hA.mono ?_
  rintro e w' ⟨at', ct, ts, ad, cd, ds, rfl, ht, htx, hd, hdd, hb⟩
  have hC : (anaOf L).C = comN L := by
    unfold anaOf
    rw [learnN_C L _ (fun x hx => by obtain ⟨i, h⟩ := hmem x hx; exact h.t1)]
    simp
  rw [hC]
  have hts : ts.length ≤ 12 := by
    obtain ⟨ss, h1, hp, _⟩ := ht
    rw [hp.length_eq]
    exact h12 ss h1
  exact ⟨at', ct, ts, ad, cd, ds.length, rfl, ht, hts, htx, hb⟩

/-- The bytes of updates lie where the history laid them. -/
def BytesOk (w : World) (L : List Ln) : Prop := ∀ r ∈ L, r.kind = 2 → ∃ g v : Nat, r.sb = oneSv g ∧ w.heap[g]? = some (.cells #[byteOf v] 5 (0, 0))
theorem HRun.bytes {X : List St} {i : Nat} {S : Hs} {K : List (Nat × Obj)} (h : HRun X i S K) : ∀ r ∈ S.L, r.kind = 2 → ∃ g v : Nat, r.sb = oneSv g ∧ (g, Obj.cells #[byteOf v] 5 (0, 0)) ∈ K := by
  induction h using HRun.ind with
  | nil => intro r hr; simp [Hs.init] at hr
  | step i x S K S' K' h hx hs ih =>
    cases hs using HStep.ind with
    | skip => exact ih
    | begin =>
      intro r hr hk
      rcases List.mem_append.1 (show r ∈ S.L ++ [_] from hr) with hr | hr
      · exact ih r hr hk
      · simp at hr; subst hr; cases hk
    | commit =>
      intro r hr hk
      rcases List.mem_append.1 (show r ∈ S.L ++ [_] from hr) with hr | hr
      · exact ih r hr hk
      · simp at hr; subst hr; cases hk
    | undo =>
      intro r hr hk
      rcases List.mem_append.1 (show r ∈ S.L ++ [_] from hr) with hr | hr
      · exact ih r hr hk
      · simp at hr; subst hr; cases hk
    | update _ _ _ _ g1 g2 =>
      intro r hr hk
      rcases List.mem_append.1 (show r ∈ S.L ++ [_] from hr) with hr | hr
      · obtain ⟨g, v, e, hm⟩ := ih r hr hk
        exact ⟨g, v, e, List.mem_cons_of_mem _ (List.mem_cons_of_mem _ hm)⟩
      · simp at hr; subst hr
        exact ⟨g1, i, rfl, List.mem_cons_self⟩
def bsAt (w : World) (r : Ln) : List Value := match r.sb.a with
  | some ad => [(w.cell? ad).getD (.int .u8 0)]
  | none => []
theorem bsAt_one {w : World} {r : Ln} {g v : Nat} (e : r.sb = oneSv g) (h : w.heap[g]? = some (.cells #[byteOf v] 5 (0, 0))) : bsAt w r = [byteOf v] := by
  unfold bsAt
  rw [e]
  show [(w.cell? ⟨g, 0, none⟩).getD _] = _
  rw [cell_of_row _ _ _ _ _ _ h]
  rfl
theorem BytesOk.byt {w1 w : World} {L : List Ln} (h : BytesOk w1 L) (hb : Below w1.heap.size w1 w) : ∀ r ∈ L, r.kind = 2 → Byt w r.sb (bsAt w1 r) := fun r hr hk => by
  obtain ⟨g, v, e, hg⟩ := h r hr hk
  have hl := (Array.getElem?_eq_some_iff.1 hg).1
  rw [bsAt_one e hg]
  refine ⟨by rw [e]; rfl, by simp, by simp, fun u hu => by simp at hu; subst hu; rfl, g, 0, by rw [e]; rfl, Nat.lt_of_lt_of_le hl hb.size, fun j u hu => ?_⟩
  match j with
  | 0 =>
    simp at hu
    subst hu
    show w.cell? ⟨g, 0, none⟩ = _
    rw [cell_of_row _ _ _ _ _ _ ((hb.block g hl).trans hg)]
    rfl
  | j + 1 => simp at hu
def n3 (O : List Ln) : Nat := O.countP (fun o => o.kind == 3)
def n6 (O : List Ln) : Nat := O.countP (fun o => o.kind == 6)
theorem Em.counts {bsOf : Ln → List Value} {K' : List (Nat × Obj)} {O Rs : List Ln} {n : Nat} (h : Em bsOf K' O Rs n) : n3 O = Rs.length ∧ n6 O = n := by
  induction h using Em.ind with
  | nil => exact ⟨rfl, rfl⟩
  | ends O Rs n id h ih => exact ⟨by unfold n3 at *; rw [List.countP_append, ih.1]; rfl, by unfold n6 at *; rw [List.countP_append, ih.2]; rfl⟩
  | clr O Rs n r g c cur h hk ht ih => exact ⟨by unfold n3 at *; rw [List.countP_append, ih.1, List.length_append]; rfl, by unfold n6 at *; rw [List.countP_append, ih.2]; rfl⟩
theorem Em.at {bsOf : Ln → List Value} {K' : List (Nat × Obj)} {O Rs : List Ln} {n : Nat} (h : Em bsOf K' O Rs n) : ∀ (q : Nat) (o : Ln), O[q]? = some o → o = endLn o.txn ∨
    ∃ (r : Ln) (g c : Nat) (cur : Array Value), o = clrLn r ⟨some ⟨g, 0, none⟩, (bsOf r).length, c⟩ ∧ Rs[n3 (O.take q)]? = some r ∧ (g, Obj.cells cur 5 (0, 0)) ∈ K' ∧ cur.toList.take (bsOf r).length = bsOf r := by
  induction h using Em.ind with
  | nil => intro q o ho; simp at ho
  | ends O Rs n id h ih =>
    intro q o ho
    rcases snoc_get ho with h1 | ⟨_, rfl⟩
    · have hq := (List.getElem?_eq_some_iff.1 h1).1
      rw [List.take_append_of_le_length (by omega)]
      exact ih q o h1
    · exact .inl rfl
  | clr O Rs n r g c cur h hk ht ih =>
    intro q o ho
    rcases snoc_get ho with h1 | ⟨rfl, rfl⟩
    · have hq := (List.getElem?_eq_some_iff.1 h1).1
      rw [List.take_append_of_le_length (by omega)]
      rcases ih q o h1 with h2 | ⟨r', g', c', cur', e1, e2, e3⟩
      · exact .inl h2
      · exact .inr ⟨r', g', c', cur', e1, snoc_old r e2, e3⟩
    · refine .inr ⟨r, g, c, cur, rfl, ?_, hk, ht⟩
      rw [List.take_append_of_le_length (Nat.le_refl _), List.take_length, h.counts.1]
      exact snoc_new Rs r
theorem log_own {w w' : World} {base : Nat} {a : Option Addr} {c : Nat} {L : List Ln} (h : w.ownsRow base 34 12 (.slice a L.length c) L.length (lnRow L)) (hL : LinesAt w' a L) : LogAt w' ⟨a, L.length, c⟩ L := by
  rcases h.2 with ⟨h1, h2⟩ | ⟨g, cap, cur, h1, _, hg, h3, _⟩
  · injection h1 with e1 e2 e3
    refine ⟨rfl, ?_, fun _ => ⟨List.eq_nil_of_length_eq_zero h2, e3⟩, fun ad had => ?_, hL⟩
    · show L.length ≤ c
      omega
    · have had : a = some ad := had
      rw [e1] at had
      cases had
  · injection h1 with e1 e2 e3
    refine ⟨rfl, ?_, fun hn => ?_, fun ad had _ => ⟨g, 0, ?_⟩, hL⟩
    · show L.length ≤ c
      omega
    · have hn : a = none := hn
      rw [e1] at hn
      cases hn
    · have had : a = some ad := had
      rw [e1] at had
      injection had with had
      exact had.symm
theorem undoL (w1 w : World) (lg : Sv) (S : Hs) (hc : HC S) (hb : Below w1.heap.size w1 w) (hL : LogAt w lg S.L) (hl : S.L.length ≤ 60) (hby : BytesOk w1 S.L) (a : Option Addr) (c : Nat) (ts : List Tx) (ht : TxnsOf (anaOf S.L).T ts) (hT : TxsAt w a ts) (h12 : ts.length ≤ 12) :
    Calls Try.prog 19 #[.slice lg.a lg.n lg.c, .slice a ts.length c] w fun e w' => ∃ (v : Value) (O' : List Ln) (K' : List (Nat × Obj)), e = .returned v ∧ w'.ownsRow w.heap.size 32 11 v O'.length (recRow O') ∧ Below w.heap.size w w' ∧ (∀ p ∈ K', w'.heap[p.1]? = some p.2) ∧
      Em (bsAt w1) K' O' ((opens S.L 0).map (lnAt S.L)) (ts.filter isLost).length := by
  refine (undo_any (hpAll w w.heap.size lg 12 (by omega)) S.L hL (Lsns10.rises hc.ls.L) (bsAt w1) (hby.byt hb) a c ts hT h12 (by omega) (by omega)).mono ?_
  rintro e w' ⟨v, O', K', rfl, h1, h2, h3, h4⟩
  exact ⟨v, O', K', rfl, h1, h2, fun p hp => (h3 p hp).1, once_plain hc ht (h4.run (.done _ _))⟩
theorem conv_one (W : World) (g c v : Nat) (h : W.cell? ⟨g, 0, none⟩ = some (byteOf v)) : (convert 30 9 (.slice (some ⟨g, 0, none⟩) 1 c)).run Try.prog W = .ok (.string (ByteArray.empty.push (UInt8.ofNat v))) W := by
  rw [run_convert_bytes_string W 30 9 5 _ _ _ Try.underlying30 Try.underlying5 Try.underlying9]
  have hload : (loadCells ⟨g, 0, none⟩ 1).run Try.prog W = .ok (([(v : Int)].map (Value.int .u8)).toArray) W := by
    have := run_loadCells_list (P := Try.prog) W ⟨g, 0, none⟩ [byteOf v] (fun j u hu => by
      match j with
      | 0 => simp at hu; subst hu; exact h
      | j + 1 => simp at hu)
    exact this
  rw [run_bytesToString W _ _ _ _ hload]
  rfl
end Go.Proofs.Ytpjppolbkdnkaaa
