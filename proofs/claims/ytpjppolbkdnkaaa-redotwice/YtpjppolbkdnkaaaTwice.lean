/- RedoTwice: its pure side, its calls, its walk. -/
import Derived.Test.YtpjppolbkdnkaaaOnceAll
import Derived.Test.YtpjppolbkdnkaaaLsns
namespace Go.Proofs.Ytpjppolbkdnkaaa
open Go.RowKit
set_option linter.unusedVariables false
set_option linter.unusedSimpArgs false

/-- Each loser's records end with its end. -/
theorem run_ends {L : List Ln} (hL : Lsns10 L) {bsOf : Ln → List Value} {H : List Los} {O O' : List Ln} {K K' : List (Nat × Obj)} (h : Run L bsOf popL fixL H O K O' K') (hn : (H.map Los.id).Nodup) (hc : ∀ y ∈ H, ∃ ks, Chain L y.id y.next ks) :
    ∃ P : List Ln, O' = O ++ P ∧ (∀ o ∈ P, ∃ y ∈ H, o.txn = y.id) ∧ ∀ y ∈ H, ∃ P1 P2, P = P1 ++ endLn y.id :: P2 ∧ ∀ o ∈ P2, o.txn ≠ y.id := by
  induction h using Run.ind with
  | done O K => exact ⟨[], by simp, by simp, by simp⟩
  | step y T O K H1 O1 K1 O' K' hb hrun ih =>
    obtain ⟨ks, hck⟩ := hc y List.mem_cons_self
    have hnT : y.id ∉ T.map Los.id ∧ (T.map Los.id).Nodup := List.nodup_cons.1 hn
    have hcT : ∀ z ∈ T, ∃ ks, Chain L z.id z.next ks := fun z hz => hc z (List.mem_cons_of_mem _ hz)
    obtain ⟨i0, r0, hr0, hv0, ht0⟩ := hck.line
    cases hb using BackTo.ind with
    | no hno => exact absurd hv0 (hno r0 (List.mem_of_getElem? hr0))
    | stop r hr hv hst O1 K1 hcomp =>
      obtain ⟨i, hi⟩ := List.mem_iff_getElem?.1 hr
      have hperm := popL_perm y T
      have hk2 : r.kind ≠ 2 := by
        match hck.cas with
        | .inl ⟨i', r', g, gv, gt, gk, gp, _⟩ => have := (hL.inj hi g (hv.trans gv.symm)).2; subst this; omega
        | .inr (.inl ⟨i', r', g, gv, gt, gk, gp, ks', ecs, c⟩) =>
          subst ecs
          have := (hL.inj hi g (hv.trans gv.symm)).2
          subst this
          unfold Ln.goesOn at hst
          rw [if_neg (by omega)] at hst
          omega
        | .inr (.inr ⟨i', r', g, gv, gt, gk, gp, c⟩) => have := (hL.inj hi g (hv.trans gv.symm)).2; subst this; omega
      obtain ⟨P, e, p1, p2⟩ := ih ((perm_ids hperm).2 hnT.2) (fun z hz => hcT z (hperm.mem_iff.1 hz))
      have e1 : O1 = O := by
        cases hcomp using Comp.ind with
        | upd h => exact absurd h hk2
        | not => rfl
      rw [e1, List.append_assoc] at e
      refine ⟨[endLn y.id] ++ P, e, fun o ho => ?_, fun z hz => ?_⟩
      · rcases List.mem_append.1 ho with ho | ho
        · simp at ho; subst ho; exact ⟨y, List.mem_cons_self, rfl⟩
        · obtain ⟨z, hz, e2⟩ := p1 o ho
          exact ⟨z, List.mem_cons_of_mem _ (hperm.mem_iff.1 hz), e2⟩
      · rcases List.mem_cons.1 hz with rfl | hz
        · refine ⟨[], P, rfl, fun o ho e2 => ?_⟩
          obtain ⟨z', hz', e3⟩ := p1 o ho
          exact hnT.1 (List.mem_map.2 ⟨z', hperm.mem_iff.1 hz', e3.symm.trans e2⟩)
        · obtain ⟨P1, P2, e2, e3⟩ := p2 z (hperm.mem_iff.2 hz)
          exact ⟨[endLn y.id] ++ P1, P2, by rw [e2]; simp, e3⟩
    | on r hr hv hgo O1 K1 hcomp =>
      obtain ⟨i, hi⟩ := List.mem_iff_getElem?.1 hr
      have hperm := fixL_perm (⟨y.id, r.goesOn⟩ :: T)
      have hids : ((fixL (⟨y.id, r.goesOn⟩ :: T)).map Los.id).Nodup := (perm_ids hperm).2 hn
      have hnew : (∃ ks, Chain L y.id r.goesOn ks) ∧ r.txn = y.id := by
        match hck.cas with
        | .inl ⟨i', r', g, gv, gt, gk, gp, ecs⟩ =>
          subst ecs
          have := (hL.inj hi g (hv.trans gv.symm)).2
          subst this
          unfold Ln.goesOn at hgo
          rw [if_neg (by omega)] at hgo
          omega
        | .inr (.inl ⟨i', r', g, gv, gt, gk, gp, ks', ecs, c⟩) =>
          subst ecs
          have := (hL.inj hi g (hv.trans gv.symm)).2
          subst this
          exact ⟨⟨ks', by unfold Ln.goesOn; rw [if_neg (by omega)]; exact c⟩, gt⟩
        | .inr (.inr ⟨i', r', g, gv, gt, gk, gp, c⟩) =>
          have := (hL.inj hi g (hv.trans gv.symm)).2
          subst this
          exact ⟨⟨ks, by unfold Ln.goesOn; rw [if_pos gk]; exact c⟩, gt⟩
      obtain ⟨P, e, p1, p2⟩ := ih hids (fun z hz => by
        rcases List.mem_cons.1 (hperm.mem_iff.1 hz) with rfl | hz
        · exact hnew.1
        · exact hcT z hz)
      have q1 : ∀ o ∈ P, ∃ z ∈ y :: T, o.txn = z.id := fun o ho => by
        obtain ⟨z, hz, e2⟩ := p1 o ho
        rcases List.mem_cons.1 (hperm.mem_iff.1 hz) with rfl | hz
        · exact ⟨y, List.mem_cons_self, e2⟩
        · exact ⟨z, List.mem_cons_of_mem _ hz, e2⟩
      have q2 : ∀ z ∈ y :: T, ∃ P1 P2, P = P1 ++ endLn z.id :: P2 ∧ ∀ o ∈ P2, o.txn ≠ z.id := fun z hz => by
        rcases List.mem_cons.1 hz with rfl | hz
        · exact p2 ⟨z.id, r.goesOn⟩ (hperm.mem_iff.2 List.mem_cons_self)
        · exact p2 z (hperm.mem_iff.2 (List.mem_cons_of_mem _ hz))
      cases hcomp using Comp.ind with
      | upd _ g2 c2 cur htk =>
        refine ⟨[clrLn r ⟨some ⟨g2, 0, none⟩, (bsOf r).length, c2⟩] ++ P, by rw [e, List.append_assoc], fun o ho => ?_, fun z hz => ?_⟩
        · rcases List.mem_append.1 ho with ho | ho
          · simp at ho; subst ho; exact ⟨y, List.mem_cons_self, hnew.2⟩
          · exact q1 o ho
        · obtain ⟨P1, P2, e2, e3⟩ := q2 z hz
          exact ⟨[clrLn r ⟨some ⟨g2, 0, none⟩, (bsOf r).length, c2⟩] ++ P1, P2, by rw [e2]; simp, e3⟩
      | not h => exact ⟨P, e, q1, q2⟩
theorem learnN_T_ne (k : Int) : ∀ (M : List Ln) (s : An), (∀ x ∈ M, x.txn ≠ k) → (learnN s M).T k = s.T k
  | [], s, _ => rfl
  | x :: M, s, h => by rw [learnN_cons, learnN_T_ne k M _ (fun y hy => h y (List.mem_cons_of_mem _ hy)), learn1_T_ne s x k (h x List.mem_cons_self)]
theorem learnN_append (s : An) (A B : List Ln) : learnN s (A ++ B) = learnN (learnN s A) B := by unfold learnN; rw [List.foldl_append]
theorem learn1_T_end (s : An) (x : Ln) (h0 : 0 < x.txn) (h6 : x.kind = 6) : (learn1 s x).T x.txn = none := by
  unfold learn1
  simp only
  rw [if_pos (by omega)]
  unfold follow1
  rw [if_neg (by omega), if_neg (by omega), if_pos h6]
  simp [delT]
theorem learnN_T_end {k : Int} (hk : 0 < k) (s : An) (M1 M2 : List Ln) (x : Ln) (hx : x.txn = k) (h6 : x.kind = 6) (h2 : ∀ y ∈ M2, y.txn ≠ k) : (learnN s (M1 ++ x :: M2)).T k = none := by
  rw [learnN_append, learnN_cons, learnN_T_ne k M2 _ h2, ← hx, learn1_T_end _ x (by omega) h6]
/-- The losers of a history. -/
theorem losers_of {S : Hs} (h : HC S) {ts : List Tx} (ht : TxnsOf (anaOf S.L).T ts) : IsHeap (loseN pushL ([], []) ts).1 (loseN pushL ([], []) ts).1.length ∧ (loseN pushL ([], []) ts).2 = [] ∧ ((loseN pushL ([], []) ts).1.map Los.id).Nodup ∧
    ∀ y, y ∈ (loseN pushL ([], []) ts).1 ↔ ∃ t : Nat, 1 ≤ t ∧ t ≤ 4 ∧ S.lastAt t ≠ 0 ∧ S.doneAt t = false ∧ y = ⟨t, S.lastAt t⟩ := by
  obtain ⟨t1, t2, t3⟩ := tell h ht
  obtain ⟨a, b, c⟩ := loseN_lost ts ([], []) (fun y hy => by
    obtain ⟨t, b1, b4, bz, rfl⟩ := t2 y hy
    have := h.ls.lastAt t
    show 0 < S.lastAt t
    omega) (by intro k a b hk hkn; simp at hkn)
  rw [List.append_nil] at c
  refine ⟨a, b, ?_, fun y => ?_⟩
  · rw [perm_ids c, List.map_reverse, List.map_map]
    have e : (ts.filter isLost).map (Los.id ∘ losOf) = (ts.filter isLost).map Tx.id := rfl
    rw [e]
    refine (List.reverse_perm _).nodup_iff.2 ?_
    exact List.Nodup.sublist (List.filter_sublist.map _) t1
  · rw [c.mem_iff, List.mem_reverse, List.mem_map]
    constructor
    · rintro ⟨z, hz, rfl⟩
      obtain ⟨hz1, hz2⟩ := List.mem_filter.1 hz
      obtain ⟨t, b1, b4, bz, rfl⟩ := t2 z hz1
      refine ⟨t, b1, b4, bz, ?_, rfl⟩
      cases hd : S.doneAt t with
      | false => rfl
      | true => rw [hd] at hz2; simp [isLost] at hz2
    · rintro ⟨t, b1, b4, bz, hd, rfl⟩
      refine ⟨_, List.mem_filter.2 ⟨t3 t b1 b4 bz, ?_⟩, rfl⟩
      rw [hd]; rfl
/-- Lines that the records O become, behind n others. -/
def MOk (n : Nat) (O M : List Ln) : Prop := M.length ≤ O.length ∧ ∀ (i : Nat) (x : Ln), M[i]? = some x → ∃ (o : Ln) (p : Int), O[i]? = some o ∧ x = { o with lsn := 10 * (((n + i : Nat) : Int) + 1), prev := p } ∧ 0 ≤ p ∧ p ≤ 10 * ((n + i : Nat) : Int)
/-- What such a line is like. -/
structure Hm (i : Nat) (x : Ln) : Prop where
  lsn : x.lsn = 10 * ((i : Int) + 1)
  k1 : 1 ≤ x.kind
  k2 : x.kind ≤ 6
  t1 : 1 ≤ x.txn
  t2 : x.txn ≤ 4
  p1 : 0 ≤ x.page
  p2 : x.page ≤ 3
  o1 : 0 ≤ x.off
  o2 : x.off ≤ 7
  v1 : 0 ≤ x.prev
  v2 : x.prev ≤ 10 * (i : Int)
  n1 : 0 ≤ x.next
  n2 : x.next ≤ 10 * (i : Int)
  c : x.count = 0
theorem Hm.ok {i : Nat} {x : Ln} (h : Hm i x) (hi : i ≤ 1000) : x.ok := by
  obtain ⟨h1, h2, h3, h4, h5, h6, h7, h8, h9, h10, h11, h12, h13, h14⟩ := h
  constructor <;> unfold In64 <;> omega
theorem Hl.hm {i : Nat} {x : Ln} (h : Hl i x) : Hm i x := by
  obtain ⟨h1, h2, h3, h4, h5, h6, h7, h8, h9, h10, h11, h12, h13, h14⟩ := h
  exact ⟨h1, h2, by omega, h4, h5, h6, h7, h8, h9, h10, h11, h12, h13, h14⟩
/-- What the records that Undo tells of a history are like. -/
structure Ho (n : Nat) (o : Ln) : Prop where
  kind : o.kind = 3 ∨ o.kind = 6
  t1 : 1 ≤ o.txn
  t2 : o.txn ≤ 4
  p1 : 0 ≤ o.page
  p2 : o.page ≤ 3
  o1 : 0 ≤ o.off
  o2 : o.off ≤ 7
  n1 : 0 ≤ o.next
  n2 : o.next ≤ 10 * (n : Int)
  c : o.count = 0
/-- Undo over a history: its records, and where each loser's end stands. -/
structure Undone (S : Hs) (O : List Ln) : Prop where
  ho : ∀ o ∈ O, Ho S.L.length o
  ends : ∀ t : Nat, 1 ≤ t → t ≤ 4 → S.lastAt t ≠ 0 → S.doneAt t = false → ∃ (i : Nat) (o : Ln), O[i]? = some o ∧ o.kind = 6 ∧ o.txn = (t : Int) ∧ ∀ (k : Nat) (o' : Ln), i < k → O[k]? = some o' → o'.txn ≠ (t : Int)
  only : ∀ o ∈ O, ∃ t : Nat, 1 ≤ t ∧ t ≤ 4 ∧ S.lastAt t ≠ 0 ∧ S.doneAt t = false ∧ o.txn = (t : Int)
theorem undone_of {S : Hs} (h : HC S) {ts : List Tx} (ht : TxnsOf (anaOf S.L).T ts) {bsOf : Ln → List Value} {O' : List Ln} {K' : List (Nat × Obj)}
    (hr : Run S.L bsOf popL fixL (loseN pushL ([], []) ts).1 (loseN pushL ([], []) ts).2 [] O' K') : Undone S O' := by
  obtain ⟨a, b, c, d⟩ := losers_of h ht
  have hL : Lsns10 S.L := fun i x hx => h.ls.L i x hx
  have hem := once_plain h ht hr
  rw [b] at hr
  obtain ⟨P, e, p1, p2⟩ := run_ends hL hr c (fun y hy => by
    obtain ⟨t, b1, b4, bz, hd, rfl⟩ := (d y).1 hy
    obtain ⟨ns, _, _, c3, _⟩ := (h.at' t b1 b4).chain bz hd
    exact ⟨_, c3⟩)
  rw [List.nil_append] at e
  subst e
  have only : ∀ o ∈ O', ∃ t : Nat, 1 ≤ t ∧ t ≤ 4 ∧ S.lastAt t ≠ 0 ∧ S.doneAt t = false ∧ o.txn = (t : Int) := fun o ho => by
    obtain ⟨y, hy, e⟩ := p1 o ho
    obtain ⟨t, b1, b4, bz, hd, rfl⟩ := (d y).1 hy
    exact ⟨t, b1, b4, bz, hd, e⟩
  refine ⟨fun o ho => ?_, fun t b1 b4 bz hd => ?_, only⟩
  · obtain ⟨t, b1, b4, _, _, et⟩ := only o ho
    obtain ⟨q, hq⟩ := List.mem_iff_getElem?.1 ho
    rcases hem.at q o hq with he | ⟨r, g, cc, cur, he, hrr, _⟩
    · rw [he] at et ⊢
      refine ⟨.inr rfl, by rw [et]; omega, by rw [et]; omega, ?_, ?_, ?_, ?_, ?_, ?_, rfl⟩ <;> simp [endLn, Ln.zero] <;> omega
    · rw [List.getElem?_map] at hrr
      obtain ⟨p, hp, hpr⟩ := Option.map_eq_some_iff.1 hrr
      have hop := (opens_mem S.L p).1 (List.mem_of_getElem? hp)
      unfold isOpen at hop
      cases hLp : S.L[p]? with
      | none => rw [hLp] at hop; cases hop
      | some r' =>
        rw [lnAt_eq hLp] at hpr
        subst hpr
        have hl := h.ls.L p r' hLp
        have hpl := (List.getElem?_eq_some_iff.1 hLp).1
        rw [he] at et ⊢
        exact ⟨.inl rfl, by rw [et]; omega, by rw [et]; omega, hl.p1, hl.p2, hl.o1, hl.o2, hl.v1, by have := hl.v2; show r'.prev ≤ _; omega, rfl⟩
  · obtain ⟨P1, P2, e, h2⟩ := p2 ⟨t, S.lastAt t⟩ ((d _).2 ⟨t, b1, b4, bz, hd, rfl⟩)
    refine ⟨P1.length, endLn t, by rw [e]; simp, rfl, rfl, fun k o' hk ho' => ?_⟩
    rw [e, List.getElem?_append_right (by omega)] at ho'
    obtain ⟨j, hj⟩ : ∃ j, k - P1.length = j + 1 := ⟨k - P1.length - 1, by omega⟩
    rw [hj, List.getElem?_cons_succ] at ho'
    exact h2 o' (List.mem_of_getElem? ho')
theorem MOk.mem {n : Nat} {O M : List Ln} (h : MOk n O M) {x : Ln} (hx : x ∈ M) : ∃ o ∈ O, o.kind = x.kind ∧ o.txn = x.txn := by
  obtain ⟨i, hi⟩ := List.mem_iff_getElem?.1 hx
  obtain ⟨o, p, ho, e, _⟩ := h.2 i x hi
  exact ⟨o, List.mem_of_getElem? ho, by rw [e], by rw [e]⟩
/-- The lines of the whole log. -/
theorem whole_hm {S : Hs} (h : HC S) {O M : List Ln} (hu : Undone S O) (hM : MOk S.L.length O M) : ∀ (i : Nat) (x : Ln), (S.L ++ M)[i]? = some x → Hm i x := fun i x hx => by
  by_cases hi : i < S.L.length
  · rw [List.getElem?_append_left hi] at hx
    exact (h.ls.L i x hx).hm
  · rw [List.getElem?_append_right (by omega)] at hx
    obtain ⟨o, p, ho, e, hp1, hp2⟩ := hM.2 _ x hx
    obtain ⟨k, a1, a2, a3, a4, a5, a6, a7, a8, a9⟩ := hu.ho o (List.mem_of_getElem? ho)
    have ei : S.L.length + (i - S.L.length) = i := by omega
    rw [ei] at e hp2
    rw [e]
    exact ⟨rfl, by show 1 ≤ o.kind; omega, by show o.kind ≤ 6; omega, a1, a2, a3, a4, a5, a6, hp1, hp2, a7, by show o.next ≤ _; omega, a9⟩
theorem whole_T {S : Hs} (h : HC S) {O M : List Ln} (hu : Undone S O) (hM : MOk S.L.length O M) (hlen : M.length = O.length) (k : Int) (tx : Tx) (hT : (anaOf (S.L ++ M)).T k = some tx) : tx.st = 2 := by
  unfold anaOf at hT
  rw [learnN_append] at hT
  by_cases hl : ∃ t : Nat, 1 ≤ t ∧ t ≤ 4 ∧ S.lastAt t ≠ 0 ∧ S.doneAt t = false ∧ k = (t : Int)
  · obtain ⟨t, b1, b4, bz, hd, rfl⟩ := hl
    obtain ⟨i, o, ho, o6, ot, hlast⟩ := hu.ends t b1 b4 bz hd
    have hi : i < M.length := by rw [hlen]; exact (List.getElem?_eq_some_iff.1 ho).1
    obtain ⟨o2, p, ho2, e, _⟩ := hM.2 i M[i] (List.getElem?_eq_getElem hi)
    rw [ho] at ho2
    injection ho2 with ho2
    subst ho2
    have e1 : M = M.take i ++ M[i] :: M.drop (i + 1) := by rw [← List.drop_eq_getElem_cons hi, List.take_append_drop]
    rw [e1, learnN_T_end (k := (t : Int)) (by omega) _ _ _ _ (by rw [e]; exact ot) (by rw [e]; exact o6) (fun y hy => ?_)] at hT
    · cases hT
    · obtain ⟨q, hq, hy2⟩ := mem_drop_iff.1 hy
      obtain ⟨o3, p3, ho3, e3, _⟩ := hM.2 q y hy2
      rw [e3]
      exact hlast q o3 hq ho3
  · rw [learnN_T_ne k M _ (fun x hx e => ?_)] at hT
    · have hT : (anaOf S.L).T k = some tx := hT
      rcases learnN_T k S.L _ (by unfold anaOf at hT; rw [hT]; rfl) with h6 | ⟨x, hx, rfl⟩
      · simp [noTx] at h6
      · obtain ⟨i, hi⟩ := List.mem_iff_getElem?.1 hx
        have hlx := h.ls.L i x hi
        have e : ((x.txn.toNat : Nat) : Int) = x.txn := by have := hlx.t1; omega
        have a1 : 1 ≤ x.txn.toNat := by have := hlx.t1; omega
        have a4 : x.txn.toNat ≤ 4 := by have := hlx.t2; omega
        have o := h.at' _ a1 a4
        have hz : S.lastAt x.txn.toNat ≠ 0 := fun hz => (o.zero hz).2.2 x hx e.symm
        have hT2 := o.T
        rw [if_neg hz, e] at hT2
        rw [hT2] at hT
        injection hT with hT
        rw [← hT]
        cases hd : S.doneAt x.txn.toNat with
        | true => rfl
        | false => exact absurd ⟨x.txn.toNat, a1, a4, hz, hd, e.symm⟩ hl
    · obtain ⟨o, ho, _, et⟩ := hM.mem hx
      obtain ⟨t, b1, b4, bz, hd, e2⟩ := hu.only o ho
      exact hl ⟨t, b1, b4, bz, hd, by rw [← e, ← et, e2]⟩
theorem loseN_done : ∀ (ts : List Tx) (s : List Los × List Ln), (∀ t ∈ ts, t.st = 2) → loseN pushL s ts = s
  | [], s, _ => rfl
  | t :: ts, s, h => by
    have e : loseN pushL s (t :: ts) = loseN pushL (lose1 pushL s t) ts := rfl
    have e1 : lose1 pushL s t = s := by unfold lose1; rw [if_pos (h t List.mem_cons_self)]
    rw [e, e1]
    exact loseN_done ts s (fun u hu => h u (List.mem_cons_of_mem _ hu))
theorem txns_st {T : Int → Option Tx} {ts : List Tx} (ht : TxnsOf T ts) (h : ∀ k tx, T k = some tx → tx.st = 2) : ∀ t ∈ ts, t.st = 2 := fun t hm => by
  obtain ⟨ss, ⟨ks, _, h2, _, _⟩, hp, _⟩ := ht
  have : some t ∈ ss.map some := List.mem_map.2 ⟨t, hp.mem_iff.1 hm, rfl⟩
  rw [← h2] at this
  obtain ⟨k, _, e⟩ := List.mem_map.1 this
  exact h k t e
/-- More is dirty behind more records. -/
theorem dirt_more {A B : List Ln} {d e : List (Int × Int)} (hd : EntsD (anaOf A).F d) (he : EntsD (anaOf (A ++ B)).F e) : d.length ≤ e.length := by
  have := nodup_le (d.map Prod.fst) (e.map Prod.fst) hd.1 (fun p hp => by
    obtain ⟨y, hy, rfl⟩ := List.mem_map.1 hp
    obtain ⟨h64, hf⟩ := hd.2.1 y hy
    have h1 : (anaOf (A ++ B)).F y.1 = some y.2 := by
      unfold anaOf at hf ⊢
      rw [learnN_append, learnN_F, hf]
    exact List.mem_map.2 ⟨_, he.2.2 _ _ h64 h1, rfl⟩)
  rw [List.length_map, List.length_map] at this
  exact this
theorem again_none (A : Ask) (f : Int → Option Int) : ∀ (Y : List Ln) (s : (Int → Option Int) × List Int), (∀ p v, s.1 p = some v → v = A.f p) → (∀ x ∈ Y, x.changes = true → x.lsn ≤ A.f x.page) → (againN A f s Y).2 = s.2
  | [], s, _, _ => rfl
  | x :: Y, s, hs, h => by
    have e : againN A f s (x :: Y) = againN A f (again1 A f s x) Y := rfl
    rw [e]
    have h1 : (again1 A f s x).2 = s.2 ∧ ∀ p v, (again1 A f s x).1 p = some v → v = A.f p := by
      unfold again1
      split
      · rename_i hc
        have hx := h x List.mem_cons_self hc.1
        have hg : (s.1 x.page).getD (A.f x.page) = A.f x.page := by
          cases hp : s.1 x.page with
          | none => rfl
          | some v => exact hs _ _ hp
        rw [hg, if_pos (by omega)]
        refine ⟨rfl, fun p v hp => ?_⟩
        simp only at hp
        split at hp
        · exact hs p v hp
        · unfold updI at hp
          split at hp
          · rename_i e2
            injection hp with hp
            rw [e2, hp]
          · exact hs p v hp
      · exact ⟨rfl, hs⟩
    rw [again_none A f Y _ h1.2 (fun y hy => h y (List.mem_cons_of_mem _ hy)), h1.1]
/-- The last LSN that changes a page. -/
def top1 (T : List Int) (x : Ln) : List Int := if x.changes = true ∧ 0 ≤ x.page ∧ x.page < 4 then T.set x.page.toNat x.lsn else T
def topN (Y : List Ln) : List Int := Y.foldl top1 [0, 0, 0, 0]
theorem topN_snoc (Y : List Ln) (x : Ln) : topN (Y ++ [x]) = top1 (topN Y) x := by unfold topN; rw [List.foldl_append]; rfl
theorem top1_len (T : List Int) (x : Ln) : (top1 T x).length = T.length := by unfold top1; split <;> simp
theorem topN_len (Y : List Ln) : (topN Y).length = 4 := by
  unfold topN
  have : ∀ (Y : List Ln) (T : List Int), (Y.foldl top1 T).length = T.length := fun Y => by
    induction Y with
    | nil => intro T; rfl
    | cons x Y ih => intro T; rw [List.foldl_cons, ih, top1_len]
  rw [this]
  rfl
/-- It is the greatest. -/
theorem topN_top {W : List Ln} (hW : ∀ (i : Nat) (x : Ln), W[i]? = some x → Hm i x) : ∀ (n : Nat), n ≤ W.length → (∀ v ∈ topN (W.take n), 0 ≤ v ∧ v ≤ 10 * (n : Int)) ∧ ∀ (i : Nat) (x : Ln), i < n → W[i]? = some x → x.changes = true → x.lsn ≤ pageLsn (topN (W.take n)) x.page := by
  intro n
  induction n with
  | zero => intro _; exact ⟨by simp [topN], fun i x hi => by omega⟩
  | succ n ih =>
    intro hn
    obtain ⟨h1, h2⟩ := ih (by omega)
    obtain ⟨y, hy⟩ : ∃ y, W[n]? = some y := ⟨_, List.getElem?_eq_getElem (by omega)⟩
    have hm := hW n y hy
    rw [take_snoc hy, topN_snoc]
    have hl4 := topN_len (W.take n)
    refine ⟨fun v hv => ?_, fun i x hi hx hc => ?_⟩
    · unfold top1 at hv
      split at hv
      · rcases List.mem_or_eq_of_mem_set hv with h | h
        · have := h1 v h; omega
        · have := hm.lsn; omega
      · have := h1 v hv; omega
    · have hmx := hW i x hx
      have hp : ¬ x.page < 0 := by have := hmx.p1; omega
      have hp4 : x.page.toNat < 4 := by have := hmx.p2; omega
      unfold pageLsn
      rw [if_neg hp]
      by_cases hin : i = n
      · subst hin
        rw [hx] at hy
        injection hy with hy
        subst hy
        unfold top1
        rw [if_pos ⟨hc, hmx.p1, by have := hmx.p2; omega⟩, List.getElem?_set_self (by omega)]
        exact Int.le_refl _
      · have h3 := h2 i x (by omega) hx hc
        unfold pageLsn at h3
        rw [if_neg hp] at h3
        unfold top1
        split
        · by_cases e : y.page.toNat = x.page.toNat
          · rw [e, List.getElem?_set_self (by omega)]
            have := hmx.lsn
            have := hm.lsn
            show x.lsn ≤ y.lsn
            omega
          · rw [List.getElem?_set_ne e]
            exact h3
        · exact h3
end Go.Proofs.Ytpjppolbkdnkaaa
namespace Go.Proofs.Ytpjppolbkdnkaaa
open Go.RowKit
set_option linter.unusedVariables false
set_option linter.unusedSimpArgs false

def AllHm (L : List Ln) : Prop := ∀ (i : Nat) (x : Ln), L[i]? = some x → Hm i x
theorem AllHm.rises {L : List Ln} (hL : AllHm L) : Rises L := fun i j x y hx hy h => by
  have h1 := (hL i x hx).lsn
  have h2 := (hL j y hy).lsn
  omega
theorem AllHm.mem {L : List Ln} (h : AllHm L) : ∀ x ∈ L, ∃ i, Hm i x := fun x hx => by
  obtain ⟨i, hi⟩ := List.mem_iff_getElem?.1 hx
  exact ⟨i, h i x hi⟩
theorem AllHm.ok {L : List Ln} (h : AllHm L) (hl : L.length ≤ 300) : ∀ x ∈ L, x.ok := fun x hx => by
  obtain ⟨i, hi⟩ := List.mem_iff_getElem?.1 hx
  exact (h i x hi).ok (by have := (List.getElem?_eq_some_iff.1 hi).1; omega)
theorem AllHm.f12 {L : List Ln} (h : AllHm L) : ∀ ds, EntsD (anaOf L).F ds → ds.length ≤ 12 := fun ds hd => by
  have := nodup_le (ds.map Prod.fst) [0, 1, 2, 3] hd.1 (fun p hp => by
    obtain ⟨y, hy, rfl⟩ := List.mem_map.1 hp
    have h1 := (hd.2.1 y hy).2
    unfold anaOf at h1
    rw [learnN_F] at h1
    have h1 : firstOf y.1 L = some y.2 := h1
    obtain ⟨x, hx, e1, _⟩ := firstOf_some _ _ _ h1
    obtain ⟨i, hi⟩ := h.mem x hx
    have h2 := hi.p1
    have h3 := hi.p2
    rw [e1] at h2 h3
    simp
    omega)
  rw [List.length_map] at this
  simp at this
  omega
theorem analyzeM (w : World) (lg : Sv) (L : List Ln) (hln : lg.n = L.length) (hL : LinesAt w lg.a L) (hl : L.length ≤ 300) (hH : AllHm L) (hk7 : ∀ x ∈ L, x.kind ≠ 7) :
    Calls Try.prog 9 #[.slice lg.a lg.n lg.c] w fun e w' => ∃ (at' : Option Addr) (ct : Nat) (ts : List Tx) (ad : Option Addr) (cd : Nat) (ds : List (Int × Int)) (C : Int), e = .returned (.tuple #[.slice at' ts.length ct, .slice ad ds.length cd, .int .i64 C]) ∧
      TxnsOf (anaOf L).T ts ∧ ts.length ≤ 12 ∧ TxsAt w' at' ts ∧ EntsD (anaOf L).F ds ∧ ds.length ≤ 12 ∧ DirtsAt w' ad ds ∧ Below w.heap.size w w' := by
  have h12 := ana_12T (s := ⟨noTx, noMap, 0⟩) (Y := L) rfl (fun x hx => by obtain ⟨i, h⟩ := hH.mem x hx; exact ⟨h.t1, h.t2⟩)
  have hA := analyze_gen w lg (anaOf L) (fun x1 R bt bd X => by
    have hP := passA_any X L hln hL hk7 (by omega) (by omega) (by omega)
    refine hP.mono ?_
    rintro e w' ⟨rfl, n', m', h1, h2, h3⟩
    exact ⟨rfl, n', m', by omega, by omega, h3⟩) h12 hH.f12
  refine hA.mono ?_
  rintro e w' ⟨at', ct, ts, ad, cd, ds, rfl, ht, htx, hd, hdd, hb⟩
  have hts : ts.length ≤ 12 := by
    obtain ⟨ss, h1, hp, _⟩ := ht
    rw [hp.length_eq]
    exact h12 ss h1
  exact ⟨at', ct, ts, ad, cd, ds, _, rfl, ht, hts, htx, hd.1, hH.f12 ds hd.1, hdd, hb⟩
theorem undoM (w1 w : World) (lg : Sv) (S : Hs) (hc : HC S) (hb : Below w1.heap.size w1 w) (hL : LogAt w lg S.L) (hl : S.L.length ≤ 60) (hby : BytesOk w1 S.L) (a : Option Addr) (c : Nat) (ts : List Tx) (ht : TxnsOf (anaOf S.L).T ts) (hT : TxsAt w a ts) (h12 : ts.length ≤ 12) :
    Calls Try.prog 19 #[.slice lg.a lg.n lg.c, .slice a ts.length c] w fun e w' => ∃ (v : Value) (O' : List Ln), e = .returned v ∧ w'.ownsRow w.heap.size 32 11 v O'.length (recRow O') ∧ Below w.heap.size w w' ∧ Undone S O' ∧ O'.length ≤ 72 := by
  refine (undo_any (hpAll w w.heap.size lg 12 (by omega)) S.L hL (Lsns10.rises hc.ls.L) (bsAt w1) (hby.byt hb) a c ts hT h12 (by omega) (by omega)).mono ?_
  rintro e w' ⟨v, O', K', rfl, h1, h2, h3, h4⟩
  refine ⟨v, O', rfl, h1, h2, undone_of hc ht (h4.run (.done _ _)), ?_⟩
  have hem := once_plain hc ht (h4.run (.done _ _))
  have hle : ∀ {O Rs : List Ln} {n : Nat}, Em (bsAt w1) K' O Rs n → O.length = Rs.length + n := fun h => by
    induction h using Em.ind with
    | nil => rfl
    | ends O Rs n id h ih => rw [List.length_append, ih]; simp; omega
    | clr O Rs n r g c cur h hk ht ih => rw [List.length_append, List.length_append, ih]; simp; omega
  rw [hle hem, List.length_map]
  have a1 : (opens S.L 0).length ≤ S.L.length := by
    unfold opens
    rw [List.length_reverse]
    refine Nat.le_trans (List.length_filter_le _ _) ?_
    rw [List.length_range']
    omega
  have a2 := List.length_filter_le isLost ts
  omega
/-- Where all is done, nothing is undone. -/
theorem undoNone (w : World) (lg : Sv) (L : List Ln) (hL : LogAt w lg L) (hR : Rises L) (hl : L.length ≤ 300) (bsOf : Ln → List Value) (hBy : ∀ r ∈ L, r.kind = 2 → Byt w r.sb (bsOf r)) (a : Option Addr) (c : Nat) (ts : List Tx) (hT : TxsAt w a ts) (h12 : ts.length ≤ 12) (hst : ∀ t ∈ ts, t.st = 2) :
    Calls Try.prog 19 #[.slice lg.a lg.n lg.c, .slice a ts.length c] w fun e w' => ∃ (av : Option Addr) (cv : Nat), e = .returned (.slice av 0 cv) ∧ Below w.heap.size w w' := by
  refine (undo_any (hpAll w w.heap.size lg 12 (by omega)) L hL hR bsOf hBy a c ts hT h12 (by omega) hl).mono ?_
  rintro e w' ⟨v, O', K', rfl, h1, h2, h3, h4⟩
  have h4 : Reach L bsOf popL fixL (loseN pushL ([], []) ts).1 (loseN pushL ([], []) ts).2 [] [] O' K' := h4
  rw [loseN_done ts _ hst] at h4
  have hr : Run L bsOf popL fixL [] [] [] O' K' := h4.run (.done _ _)
  match hr.none with
  | ⟨e1, _⟩ =>
    subst e1
    obtain ⟨ao, c', e⟩ := own_slice h1
    exact ⟨ao, c', by rw [e]; rfl, h2⟩
/-- Where every page has seen all its changes, nothing is redone. -/
theorem redoNone (A : Ask) (w : World) (lg : Sv) (L : List Ln) (da : Option Addr) (D : List (Int × Int)) (dc : Nat) (hA : A.held w) (hL : LogAt w lg L) (hR : Rises L) (hD : DirtsAt w da D) (hl : L.length ≤ 300) (hd : D.length ≤ 12) (htop : ∀ x ∈ L, x.changes = true → x.lsn ≤ A.f x.page) :
    Calls Try.prog 16 #[.slice lg.a lg.n lg.c, .slice da D.length dc, .func (.func A.g) #[] A.cb] w fun e w' => ∃ (av : Option Addr) (cv : Nat), e = .returned (.slice av 0 cv) ∧ Below w.heap.size w w' := by
  refine (redo_any A w lg L da D dc hA hL hR hD (by omega) (by omega)).mono ?_
  rintro e w' ⟨v, rfl, h1, h2⟩
  have e0 : redoOf A D L = [] := by
    unfold redoOf
    exact again_none A _ L (noMap, []) (fun p v h => by cases h) htop
  rw [e0] at h1
  obtain ⟨ao, c', e⟩ := own_slice h1
  exact ⟨ao, c', by rw [e]; rfl, h2⟩
end Go.Proofs.Ytpjppolbkdnkaaa
namespace Go.Proofs.Ytpjppolbkdnkaaa
open Go.RowKit
set_option linter.unusedVariables false
set_option linter.unusedSimpArgs false

theorem arr_cell {w : World} {g ty : Nat} {A : List Int} (h : w.heap[g]? = some (.cells (intsV A).toArray ty (0, 0))) (t : Nat) (ht : t < A.length) : w.cell? ⟨g, t, none⟩ = some (.int .i64 (A.getD t 0)) ∧ w.frozen? ⟨g, t, none⟩ = false := by
  refine ⟨?_, frozen_of_row _ _ _ _ _ h⟩
  rw [cell_of_row _ _ _ _ _ _ h, List.getElem?_toArray]
  unfold intsV
  rw [List.getElem?_map, List.getD_eq_getElem?_getD, List.getElem?_eq_getElem ht]
  rfl
theorem arr_set {w : World} {g ty : Nat} {A : List Int} (h : w.heap[g]? = some (.cells (intsV A).toArray ty (0, 0))) (t : Nat) (v : Int) : (w.setCell ⟨g, t, none⟩ (.int .i64 v)).heap[g]? = some (.cells (intsV (A.set t v)).toArray ty (0, 0)) := by
  rw [heap_setCell_same w g t _ ty _ h]
  unfold intsV
  rw [List.map_set]
  simp
theorem arr_bound {A : List Int} {b : Int} (h : ∀ v ∈ A, 0 ≤ v ∧ v ≤ b) (hb : 0 ≤ b) (t : Nat) : 0 ≤ A.getD t 0 ∧ A.getD t 0 ≤ b := by
  rw [List.getD_eq_getElem?_getD]
  cases hx : A[t]? with
  | none => exact ⟨Int.le_refl _, hb⟩
  | some v => exact h v (List.mem_of_getElem? hx)
theorem arr_bound_set {A : List Int} {b b' : Int} (h : ∀ v ∈ A, 0 ≤ v ∧ v ≤ b) (hb : b ≤ b') {x : Int} (hx : 0 ≤ x ∧ x ≤ b') (t : Nat) : ∀ v ∈ A.set t x, 0 ≤ v ∧ v ≤ b' := fun v hv => by
  rcases List.mem_or_eq_of_mem_set hv with h1 | h1
  · have := h v h1; omega
  · rw [h1]; exact hx
theorem recrow_at {w : World} {base g c : Nat} {L : List Ln} (h : w.ownsRow base 32 11 (.slice (some ⟨g, 0, none⟩) L.length c) L.length (recRow L)) (i : Nat) (x : Ln) (hx : L[i]? = some x) : w.rangeAt g (i * 11) (recCells x) := fun j v hv => by
  have hi := (List.getElem?_eq_some_iff.1 hx).1
  obtain ⟨g', c', cur, e, _, hg, h1, _, h3, ht⟩ := own_some h (by omega)
  injection e with e1 e2 e3
  injection e1 with e1
  injection e1 with e1 _
  subst e1
  have hj := (List.getElem?_eq_some_iff.1 hv).1
  have hj : j < 11 := by simpa [recCells] using hj
  have hfl : ∀ y ∈ L.map recCells, y.length = 11 := fun y hy => by obtain ⟨z, _, rfl⟩ := List.mem_map.1 hy; rfl
  have h0 := flat_get 11 (L.map recCells) hfl i (by rw [List.length_map]; exact hi) j hj
  have hx' := (List.getElem?_eq_some_iff.1 hx).2
  rw [List.getElem_map, hx', hv] at h0
  have hrow : (recRow L)[i * 11 + j]? = some v := by unfold recRow; rw [List.flatMap_def]; exact h0
  rw [← ht, List.getElem?_take, if_pos (by omega)] at hrow
  rw [cell_of_row _ _ _ _ _ _ hg]
  simpa using hrow
theorem Try.make4 (W : World) : (Instr.makeSlice 49 (.int .i64 4) (.int .i64 4)).run Try.prog W = .ok (.slice (some ⟨W.heap.size, 0, none⟩) 4 4) (W.alloc (.cells #[.int .i64 0, .int .i64 0, .int .i64 0, .int .i64 0] 3)) := by kernel_rfl
/-- A log that grows in its own row, beside an array. -/
structure LIs (w0 w4 wx : World) (v30 : Value) (g8 : Nat) (lv : Value) (W : List Ln) (A : List Int) : Prop where
  row : wx.ownsRow w0.heap.size 34 12 lv W.length (lnRow W)
  blk : ∀ k, lv.ownBlock = some k → v30.ownBlock = some k ∨ w4.heap.size ≤ k
  arr : wx.heap[g8]? = some (.cells (intsV A).toArray 61 (0, 0))
  below : Below w0.heap.size w0 wx
  keep : ∀ k, k < w4.heap.size → v30.ownBlock ≠ some k → k ≠ g8 → wx.heap[k]? = w4.heap[k]?
  size : w4.heap.size ≤ wx.heap.size
theorem LIs.upd {w0 w4 wx wx' : World} {v30 lv : Value} {g8 : Nat} {W : List Ln} {A A' : List Int} (h : LIs w0 w4 wx v30 g8 lv W A) (hO : Off [g8] wx wx') (hg : w0.heap.size ≤ g8) (hl : lv.ownBlock ≠ some g8) (ha : wx'.heap[g8]? = some (.cells (intsV A').toArray 61 (0, 0))) : LIs w0 w4 wx' v30 g8 lv W A' where
  row := owns_of_blockB h.row (fun k hk => hO.block k (h.row.lt k hk).2 (fun hm => hl (by have := List.mem_singleton.1 hm; rw [← this]; exact hk)))
  blk := h.blk
  arr := ha
  below := h.below.trans (hO.below h.below.size (fun k hk => by have := List.mem_singleton.1 hk; omega))
  keep := fun k hk h3 h8 => (hO.block k (Nat.lt_of_lt_of_le hk h.size) (fun hm => h8 (List.mem_singleton.1 hm))).trans (h.keep k hk h3 h8)
  size := Nat.le_trans h.size hO.size
theorem LIs.addLine {w0 w4 wx wA w6 : World} {v30 lv v6 : Value} {g8 : Nat} {W : List Ln} {A : List Int} (x : LIs w0 w4 wx v30 g8 lv W A) (r : Ln) {n : Nat} (hn : W.length = n) (hg : lv.ownBlock ≠ some g8) (h8 : g8 < w4.heap.size) (hO : Off [] wx wA) (r1 : w6.ownsRow 0 34 12 v6 (n + 1) (lnRow W ++ lnCells r)) (r2 : wA.grownBy w6 lv.ownBlock)
    (r3 : ∀ k, v6.ownBlock = some k → lv.ownBlock = some k ∨ wA.heap.size ≤ k) : LIs w0 w4 w6 v30 g8 v6 (W ++ [r]) A where
  row := by
    have e1 : (W ++ [r]).length = n + 1 := by simp [hn]
    have e2 : lnRow (W ++ [r]) = lnRow W ++ lnCells r := by simp [lnRow]
    rw [e1, e2]
    refine owns_base r1 (fun k hk => ?_)
    rcases r3 k hk with h | h
    · exact (x.row.lt k h).1
    · have := hO.size
      have := x.below.size
      omega
  blk := fun k hk => by
    rcases r3 k hk with h | h
    · exact x.blk k h
    · have := hO.size
      have := x.size
      exact .inr (by omega)
  arr := by
    have hl := (Array.getElem?_eq_some_iff.1 x.arr).1
    exact ((r2.block g8 (Nat.lt_of_lt_of_le hl hO.size) (fun e => hg e.symm)).trans (hO.block g8 hl (by simp))).trans x.arr
  below := (x.below.trans (hO.below x.below.size (by simp))).grown r2 (Nat.le_trans x.below.size hO.size) (fun k e => (x.row.lt k e).1)
  keep := fun k hk h3 h8' => by
    have hl := Nat.lt_of_lt_of_le hk x.size
    refine ((r2.block k (Nat.lt_of_lt_of_le hl hO.size) (fun e => ?_)).trans (hO.block k hl (by simp))).trans (x.keep k hk h3 h8')
    rcases x.blk k e.symm with h | h
    · exact h3 h
    · omega
  size := Nat.le_trans x.size (Nat.le_trans hO.size r2.size)

set_option maxHeartbeats 8000000 in
set_option maxRecDepth 100000 in
theorem twice_walk (w : World) (a : Option Addr) (len c : Nat)
    (hHist : Calls Try.prog 8 #[.slice a len c] w fun e w' => ∃ (a3 : Option Addr) (c3 : Nat) (S : Hs), e = .returned (.slice a3 S.L.length c3) ∧ w'.ownsRow w.heap.size 34 12 (.slice a3 S.L.length c3) S.L.length (lnRow S.L) ∧ HC S ∧ S.L.length ≤ 60 ∧ BytesOk w' S.L ∧ (∀ r ∈ S.L, r.kind = 2 → ∀ g, r.sb = oneSv g → (Value.slice a3 S.L.length c3).ownBlock ≠ some g) ∧ Below w.heap.size w w') :
    Calls Try.prog 7 #[.slice a len c] w fun e w' => e = .returned (.bool true) ∧ Below w.heap.size w w' := by
  have HH := hide hHist
  clear hHist
  go_enter Try.func7, Try.ntmps7
  go_upto_region 2 with (go_at_call 8; refine HH.out.mono ?_; rintro e w1 ⟨a3, c3, S, rfl, hrow, hC, hl60, hby, hap, hB1⟩; have HROW := hide hrow; have HC := hide hC; have HBY := hide hby; have HAP := hide hap; have HB1 := hide hB1; clear hrow hC hby hap hB1)
  have HM0 : Hid (AllHm S.L) := fun i x hx => (HC.out.ls.L i x hx).hm
  have HLI := hide (linesOwn HROW.out (HM0.out.ok (by omega)) (by omega))
  have HLG : Hid (∀ W, Below w1.heap.size w1 W → LogAt W ⟨a3, S.L.length, c3⟩ S.L) := fun W hb => log_own HROW.out (HLI.out.below hb)
  have HAL := hide (analyzeM w1 ⟨a3, S.L.length, c3⟩ S.L rfl HLI.out (by omega) HM0.out (fun x hx => by obtain ⟨i, hi⟩ := List.mem_iff_getElem?.1 hx; have := (HC.out.ls.L i x hi).k2; omega))
  obtain ⟨ln, hln⟩ : ∃ ln, S.L.length = ln := ⟨_, rfl⟩
  have HLN := hide hln
  rw [hln] at hl60 HAL HROW HAP ⊢
  clear hln
  go_upto_region 3 with (go_at_call 9; refine HAL.out.mono ?_; rintro e w2 ⟨at', ct, ts, ad, cd, ds, C0, rfl, ht, ht12, htx, hds, hd12, _, hB2⟩; have HT := hide ht; have HTX := hide htx; have HDS := hide hds; have HB2 := hide hB2; clear ht htx hds hB2)
  have HUN := hide (undoM w1 w2 ⟨a3, S.L.length, c3⟩ S HC.out HB2.out (HLG.out w2 HB2.out) (by rw [HLN.out]; exact hl60) HBY.out at' ct ts HT.out HTX.out ht12)
  have HTE := hide (tell HC.out HT.out).2.1
  obtain ⟨tn, htn⟩ : ∃ tn, ts.length = tn := ⟨_, rfl⟩
  have HTN := hide htn
  obtain ⟨dn, hdn⟩ : ∃ dn, ds.length = dn := ⟨_, rfl⟩
  have HDN := hide hdn
  rw [htn] at HUN ht12 ⊢
  rw [hdn] at hd12 ⊢
  rw [HLN.out] at HUN
  clear htn hdn HAL
  go_upto_region 4 with (go_at_call 19; refine HUN.out.mono ?_; rintro e w3 ⟨vu, O', rfl, hrow, hB3, hUD, hul⟩; obtain ⟨au, cu, hvu⟩ := own_slice hrow; subst hvu; have HRO := hide hrow; have HB3 := hide hB3; have HUD := hide hUD; clear hrow hB3 hUD)
  obtain ⟨un, hun⟩ : ∃ un, O'.length = un := ⟨_, rfl⟩
  have HUNN := hide hun
  rw [hun] at hul ⊢
  clear hun
  go_upto_region 6 with fail
  generalize hw4 : w3.alloc _ = w4
  have HA4 : Hid (w4.heap[w3.heap.size]? = some (.cells (intsV [0, 0, 0, 0, 0, 0]).toArray 61 (0, 0))) := by show _ = _; rw [← hw4]; exact heap_alloc_new _ _
  have HB34 : Hid (Below w3.heap.size w3 w4) := by show Below _ _ _; rw [← hw4]; exact (Below.refl _ _).alloc (Nat.le_refl _) _
  have HS4 : Hid (w4.heap.size = w3.heap.size + 1) := by show _ = _; rw [← hw4]; simp
  clear hw4
  obtain ⟨g8, hg8⟩ : ∃ g8, w3.heap.size = g8 := ⟨_, rfl⟩
  have HG8 := hide hg8
  rw [hg8] at HA4 ⊢
  clear hg8
  go_loopw [9] (fun i wx => ∃ (q : Nat) (A : List Int), q ≤ tn ∧ i = .int .i64 q ∧ A.length = 6 ∧ (∀ v ∈ A, 0 ≤ v ∧ v ≤ 10 * (ln : Int)) ∧ wx.heap[g8]? = some (.cells (intsV A).toArray 61 (0, 0)) ∧ Off [g8] w4 wx) (fun i _ => tn - (iv i).toNat)
  case atStart => exact ⟨0, [0, 0, 0, 0, 0, 0], by omega, rfl, rfl, fun v hv => by simp at hv; subst hv; omega, HA4.out, Off.refl _ _⟩
  case round =>
    obtain ⟨q, A, hqn, rfl, hA6, hAb, hAr, hO⟩ := hrel
    have HAB := hide hAb
    have HAR := hide hAr
    have HO := hide hO
    clear hAb hAr hO
    by_cases hqlt : q < tn
    · obtain ⟨y, hy⟩ : ∃ y, ts[q]? = some y := ⟨_, List.getElem?_eq_getElem (by rw [HTN.out]; exact hqlt)⟩
      obtain ⟨t, ht1, ht4, htz, rfl⟩ := HTE.out y (List.mem_of_getElem? hy)
      obtain ⟨b, o, hab, hbl, hrg⟩ := HTX.out q _ hy
      have hbk : wr.heap[b]? = w2.heap[b]? := by
        have h1 := HB3.out.size
        have h2 := HG8.out
        refine (HO.out.block b (by have := HB34.out.size; omega) (by simp; omega)).trans ((HB34.out.block b (by omega)).trans (HB3.out.block b hbl))
      have y0 : wr.cell? ⟨b, o + q * 3, none⟩ = some (.int .i64 (t : Int)) := (World.cell?_of_block (a := ⟨b, o + q * 3, none⟩) hbk).trans (hrg 0 _ rfl)
      have y1 : wr.cell? ⟨b, o + q * 3 + 1, none⟩ = some (.int .i64 (S.lastAt t)) := (World.cell?_of_block (a := ⟨b, o + q * 3 + 1, none⟩) hbk).trans (hrg 1 _ rfl)
      have hlb := HC.out.ls.lastAt t
      rw [HLN.out] at hlb
      obtain ⟨la, hla⟩ : ∃ la, S.lastAt t = la := ⟨_, rfl⟩
      rw [hla] at y1 hlb htz
      have k8 := (arr_cell HAR.out t (by omega)).1
      have f8 := (arr_cell HAR.out t (by omega)).2
      obtain ⟨ov, hov⟩ : ∃ ov, A.getD t 0 = ov := ⟨_, rfl⟩
      rw [hov] at k8
      clear hov hla hrg hy hbk
      subst hab
      go_upto_region 9 with fail
      go_region
      go_wp2
      go_roundw
      case rel => exact ⟨q + 1, A.set t la, by omega, by go_num, by simp [hA6], arr_bound_set HAB.out (Int.le_refl _) ⟨by omega, by omega⟩ t, arr_set HAR.out t la, (HO.out.setCell _ _ (.inl (by simp))).drewN 1⟩
      case measure => simp [iv]; omega
    · obtain rfl : q = tn := by omega
      clear hqlt hqn
      have HLI0 : Hid (LIs w w4 wr (.slice a3 ln c3) g8 (.slice a3 ln c3) S.L A) := {
        row := by
          have h := HROW.out
          rw [HLN.out]
          refine owns_of_blockB h (fun k hk => ?_)
          have h1 := (h.lt k hk).2
          have h2 := HB2.out.size
          have h3 := HB3.out.size
          have h4 := HG8.out
          exact (HO.out.block k (by have := HB34.out.size; omega) (by simp; omega)).trans ((HB34.out.block k (by omega)).trans ((HB3.out.block k (by omega)).trans (HB2.out.block k h1)))
        blk := fun k hk => .inl hk
        arr := HAR.out
        below := by
          have h2 := HB2.out.size
          have h3 := HB3.out.size
          have h1 := HB1.out.size
          have h4 := HG8.out
          exact (HB1.out.trans ((HB2.out.mono h1).trans ((HB3.out.mono (by omega)).trans (HB34.out.mono (by omega))))).trans (HO.out.below (by have := HB34.out.size; omega) (fun k hk => by simp at hk; omega))
        keep := fun k hk _ h8 => HO.out.block k hk (by simp; exact h8)
        size := HO.out.size }
      go_upto_region 11 with fail
      clear HAR HO
      have HABz : Hid (∀ v ∈ A, 0 ≤ v ∧ v ≤ 10 * ((ln + 0 : Nat) : Int)) := HAB.out
      go_loopw [3, 10] (fun lv i wx => ∃ (j : Nat) (M : List Ln) (A : List Int), j ≤ un ∧ i = .int .i64 j ∧ M.length = j ∧ MOk ln O' M ∧ A.length = 6 ∧ (∀ v ∈ A, 0 ≤ v ∧ v ≤ 10 * ((ln + j : Nat) : Int)) ∧ LIs w w4 wx (.slice a3 ln c3) g8 lv (S.L ++ M) A) (fun _ i _ => un - (iv i).toNat)
      case atStart => exact ⟨0, [], A, by omega, rfl, rfl, ⟨by simp, fun i x hx => by simp at hx⟩, hA6, HABz.out, by rw [List.append_nil]; exact HLI0.out⟩
      case round =>
        clear HABz HAB HLI0 hA6
        clear A
        obtain ⟨j, M, A, hjn, rfl, hMl, hMO, hA6, hAb, hLI⟩ := hrel
        obtain ⟨al, cl, hvl⟩ := own_slice hLI.row
        subst hvl
        have hWl : (S.L ++ M).length = ln + j := by rw [List.length_append, HLN.out, hMl]
        have HWL := hide hWl
        have HAB := hide hAb
        have HLI := hide hLI
        have HMO := hide (And.intro hMl hMO)
        rw [hWl] at HLI ⊢
        clear hWl hAb hLI hMl hMO
        by_cases hjlt : j < un
        · obtain ⟨x, hx⟩ : ∃ x, O'[j]? = some x := ⟨_, List.getElem?_eq_getElem (by rw [HUNN.out]; exact hjlt)⟩
          have HXI := hide hx
          have HXO := hide (HUD.out.ho x (List.mem_of_getElem? hx))
          obtain ⟨gu, cu', _, hvu, hgub, hgu, _⟩ := own_some HRO.out (by rw [HUNN.out]; omega)
          injection hvu with hau _ hcu
          subst hau; subst hcu
          have hgl := (Array.getElem?_eq_some_iff.1 hgu).1
          have hvb : ∀ k, (Value.slice a3 ln c3).ownBlock = some k → k < w2.heap.size := fun k hk => Nat.lt_of_lt_of_le (HROW.out.lt k hk).2 HB2.out.size
          have hgk : wr.heap[gu]? = w3.heap[gu]? := by
            have h1 := HS4.out
            have h2 := HG8.out
            refine (HLI.out.keep gu (by omega) (fun e => by have := hvb gu e; omega) (by omega)).trans (HB34.out.block gu hgl)
          have HUX : Hid (wr.rangeAt gu (j * 11) (recCells x)) := fun i v hv => (World.cell?_of_block (a := ⟨gu, j * 11 + i, none⟩) hgk).trans (recrow_at HRO.out j x hx i v hv)
          unfold recCells at HUX
          clear hx hgk hgu hgub
          have hx1 := HXO.out.t1
          have hx2 := HXO.out.t2
          obtain ⟨t0, ht0⟩ : ∃ t0 : Nat, x.txn = (t0 : Int) := ⟨x.txn.toNat, by omega⟩
          have ht1 : 1 ≤ t0 := by omega
          have ht5 : t0 ≤ 4 := by omega
          have HT0 := hide ht0
          clear ht0 hx1 hx2
          have hlg8 : (Value.slice al (ln + j) cl).ownBlock ≠ some g8 := fun e => by
            have h1 := HS4.out
            have h2 := HG8.out
            have h3 := HB3.out.size
            rcases HLI.out.blk g8 e with h | h
            · have := hvb g8 h; omega
            · omega
          obtain ⟨wn, hwn⟩ : ∃ wn, ln + j = wn := ⟨_, rfl⟩
          have HWN := hide hwn
          have hwn2 : wn ≤ 200 := by omega
          rw [hwn] at HLI hlg8 HAB ⊢
          go_upto_region 15 with (refine wpList_load_mid (by rfl) 32 _ (by rfl) gu (j * 11) (by rfl) _ _ HUX.out Try.underlying32 rfl Try.size32n ?_)
          generalize hx5 : wr.alloc _ = x5
          have hG5 : x5.heap[wr.heap.size]? = some (.cells (recCells x).toArray 32 (0, 0)) := by rw [← hx5]; exact heap_alloc_new _ _
          have hBx : Below wr.heap.size wr x5 := by rw [← hx5]; exact (Below.refl _ _).alloc (Nat.le_refl _) _
          have hO5 : Off [g8] wr x5 := by rw [← hx5]; exact (Off.refl _ _).alloc _
          have h8l := (Array.getElem?_eq_some_iff.1 HLI.out.arr).1
          have hA5 : x5.heap[g8]? = some (.cells (intsV A).toArray 61 (0, 0)) := (hBx.block g8 h8l).trans HLI.out.arr
          have k1 : x5.cell? ⟨wr.heap.size, 1, none⟩ = some (.int .i64 (t0 : Int)) := by rw [cell_of_row _ _ _ _ _ _ hG5, ← HT0.out]; rfl
          have k2 : x5.cell? ⟨wr.heap.size, 2, none⟩ = some (.int .i64 x.prev) := by rw [cell_of_row _ _ _ _ _ _ hG5]; rfl
          have f2 : x5.frozen? ⟨wr.heap.size, 2, none⟩ = false := frozen_of_row _ _ _ _ _ hG5
          have k8 := (arr_cell hA5 t0 (by omega)).1
          have f8 := (arr_cell hA5 t0 (by omega)).2
          have hpb := arr_bound HAB.out (by omega) t0
          obtain ⟨pv, hpv⟩ : ∃ pv, A.getD t0 0 = pv := ⟨_, rfl⟩
          rw [hpv] at k8 hpb
          have hne1 : wr.heap.size ≠ g8 := by omega
          have hne2 : g8 ≠ wr.heap.size := by omega
          have HG5 := hide hG5
          have HA5 := hide hA5
          have HO5 := hide hO5
          have HIN : Hid (wr.heap.size ≤ wr.heap.size) := Nat.le_refl _
          have HSZ : Hid (∀ k, k = wr.heap.size → wr.heap.size ≤ k) := fun k e => by omega
          clear hx5 hG5 hBx hO5 hA5 HUX hpv h8l hwn
          obtain ⟨g12, hg12⟩ : ∃ g12, wr.heap.size = g12 := ⟨_, rfl⟩
          have HG12 := hide hg12
          rw [hg12] at k1 k2 f2 hne1 hne2 HG5 ⊢
          clear hg12
          go_upto_region 19 with fail
          generalize hx6 : World.setCell _ _ (Value.int .i64 (10 * ((wn : Int) + 1))) = x6
          have HG6 : Hid (x6.heap[g12]? = some (.cells (recCells { x with lsn := 10 * ((wn : Int) + 1), prev := pv }).toArray 32 (0, 0))) := by
            show _ = _
            rw [← hx6, heap_setCell_other _ _ g12 _ (by exact hne1), heap_setCell_same x5 g12 2 _ 32 _ HG5.out]
            rfl
          have HLI6 : Hid (LIs w w4 x6 (.slice a3 ln c3) g8 (.slice al wn cl) (S.L ++ M) (A.set t0 (10 * ((wn : Int) + 1)))) := by
            refine HLI.out.upd ?_ (by have h1 := HB1.out.size; have h2 := HB2.out.size; have h3 := HB3.out.size; have h4 := HG8.out; omega) hlg8 ?_
            · rw [← hx6]
              exact (HO5.out.setCell _ _ (.inr (by show wr.heap.size ≤ g12; rw [HG12.out]; exact Nat.le_refl _))).setCell _ _ (.inl (by simp))
            · rw [← hx6]
              exact arr_set ((heap_setCell_other x5 _ g8 _ (by exact hne2)).trans HA5.out) t0 _
          have HRX : Hid (x6.rangeAt g12 0 (recCells { x with lsn := 10 * ((wn : Int) + 1), prev := pv })) := fun i v hv => by rw [Nat.zero_add, cell_of_row _ _ _ _ _ _ HG6.out]; simpa using hv
          clear hx6 k1 k2 f2 k8 f8 HG5 HA5 HO5 HLI
          obtain ⟨rr, hrr⟩ : ∃ rr : Ln, ({ x with lsn := 10 * ((wn : Int) + 1), prev := pv }) = rr := ⟨_, rfl⟩
          have hrl : 10 * ((wn : Int) + 1) = rr.lsn := by rw [← hrr]
          have HRR := hide hrr
          have HRL := hide hrl
          rw [hrr] at HRX
          rw [hrl]
          clear hrr hrl
          have HOWN : Hid ((x6.alloc (.cells (lnCells rr).toArray 34)).ownsRow 0 34 12 (.slice al wn cl) wn (lnRow (S.L ++ M))) := by
            have h := HLI6.out.row
            rw [HWL.out, HWN.out] at h
            exact owns_of_block (owns_zero h) (fun q hq => Below.heap_alloc x6 _ q (h.lt q hq).2)
          have HSRC : Hid (∀ j u, (lnCells rr)[j]? = some u → (x6.alloc (.cells (lnCells rr).toArray 34)).cell? ((⟨x6.heap.size, 0, none⟩ : Addr).add j) = some u) := src_of_block (heap_alloc_new x6 _)
          unfold recCells at HRX
          go_wp2_with (first
            | (refine wpList_load_mid (by rfl) 32 _ (by rfl) g12 0 (by rfl) _ _ HRX.out Try.underlying32 rfl Try.size32n ?_)
            | (refine wpList_append_owned (by rfl) _ _ 23 (by rfl) 34 (.agg (lnCells Ln.zero).toArray) 12 160 Try.underlying23 Try.info34 rfl (by omega) (.slice al wn cl) wn (lnRow (S.L ++ M)) (by rfl) HOWN.out ⟨x6.heap.size, 0, none⟩ 1 1 (lnCells rr) (by rfl) (by rfl) HSRC.out (by intro u hu; simp [lnCells, recCells] at hu; rcases hu with rfl | rfl | rfl | rfl | rfl | rfl | rfl | rfl | rfl | rfl | rfl | rfl <;> rfl) (by simp only [maxLen]; omega) (by omega) (fun v6 w6 r1 r2 r3 => ?_)
               have hL6 := HLI6.out.addLine rr (HWL.out.trans HWN.out) hlg8 (by have := HS4.out; have := HG8.out; omega) ((Off.refl [] x6).alloc _) r1 r2 r3
               have HL6 := hide hL6
               clear r1 r2 r3 hL6))
          go_roundw
          case rel =>
            refine ⟨j + 1, M ++ [rr], A.set t0 (10 * ((wn : Int) + 1)), by omega, by go_num, by rw [List.length_append, HMO.out.1]; rfl, ⟨?_, fun i y hy => ?_⟩, by simp [hA6], ?_, by rw [← List.append_assoc]; exact HL6.out⟩
            · rw [List.length_append, HMO.out.1, HUNN.out]; simp; omega
            · rcases snoc_get hy with h | ⟨h1, h2⟩
              · exact HMO.out.2.2 i y h
              · refine ⟨x, pv, by rw [h1, HMO.out.1]; exact HXI.out, ?_, hpb.1, ?_⟩
                · rw [h2, ← HRR.out, h1, HMO.out.1, HWN.out]
                · rw [h1, HMO.out.1, HWN.out]; exact hpb.2
            · refine arr_bound_set HAB.out ?_ ⟨by omega, ?_⟩ t0
              · have := HWN.out; omega
              · have := HWN.out; omega
          case measure => simp [iv]; omega
        · obtain rfl : j = un := by omega
          have HHM : Hid (AllHm (S.L ++ M)) := whole_hm HC.out HUD.out (by rw [HLN.out]; exact HMO.out.2)
          obtain ⟨wn, hwn⟩ : ∃ wn, ln + j = wn := ⟨_, rfl⟩
          have HWN := hide hwn
          have hwn2 : wn ≤ 200 := by omega
          rw [hwn] at HLI HWL ⊢
          clear hwn hjlt hjn HAB
          obtain ⟨W, hWW⟩ : ∃ W, S.L ++ M = W := ⟨_, rfl⟩
          have HWW := hide hWW
          rw [hWW] at HLI HHM HWL
          clear hWW
          have HROWr := hide HLI.out.row
          have HBr := hide HLI.out.below
          have hms := Try.make4
          go_upto_region 22 with fail
          clear hms
          generalize hw6 : wr.alloc _ = w6
          have hT6 : w6.heap[wr.heap.size]? = some (.cells (intsV (topN (W.take 0))).toArray 3 (0, 0)) := by rw [← hw6]; exact heap_alloc_new _ _
          have hB6 : Below wr.heap.size wr w6 := by rw [← hw6]; exact (Below.refl _ _).alloc (Nat.le_refl _) _
          have HT6 := hide hT6
          have HB6 := hide hB6
          clear hw6 hT6 hB6
          obtain ⟨gt, hgt⟩ : ∃ gt, wr.heap.size = gt := ⟨_, rfl⟩
          have HGT := hide hgt
          rw [hgt] at HT6 ⊢
          clear hgt
          have HRW : Hid (∀ Wd, Off [gt] w6 Wd → LogAt Wd ⟨al, W.length, cl⟩ W ∧ Below w.heap.size w Wd ∧ ∀ k, k < gt → Wd.heap[k]? = wr.heap[k]?) := fun Wd hO => by
            have hs := HB6.out.size
            have hg := HGT.out
            have hbl : ∀ k, k < gt → Wd.heap[k]? = wr.heap[k]? := fun k hk => (hO.block k (by omega) (by simp; omega)).trans (HB6.out.block k (by omega))
            have hrow : Wd.ownsRow w.heap.size 34 12 (.slice al W.length cl) W.length (lnRow W) := by
              have h := HROWr.out
              rw [← HWL.out] at h
              exact owns_of_blockB h (fun k hk => hbl k (by have := (h.lt k hk).2; omega))
            refine ⟨log_own hrow (linesOwn hrow (HHM.out.ok (by rw [HWL.out]; omega)) (by rw [HWL.out]; omega)), ?_, hbl⟩
            exact (HBr.out.trans (HB6.out.mono HBr.out.size)).trans (hO.below (Nat.le_trans HBr.out.size hs) (fun k hk => by have := List.mem_singleton.1 hk; have := HBr.out.size; omega))
          have hab : wn ≠ 0 → ∃ b o, al = some ⟨b, o, none⟩ ∧ b < gt ∧ ∀ i x, W[i]? = some x → wr.rangeAt b (o + i * 12) (lnCells x) := fun hne => by
            have h := HROWr.out
            rw [← HWL.out] at h
            have hL := linesOwn h (HHM.out.ok (by rw [HWL.out]; omega)) (by rw [HWL.out]; omega)
            obtain ⟨x, hx⟩ : ∃ x, W[0]? = some x := ⟨_, List.getElem?_eq_getElem (by rw [HWL.out]; omega)⟩
            obtain ⟨_, b, o, e, hb, _⟩ := hL.2 0 x hx
            refine ⟨b, o, e, by rw [← HGT.out]; exact hb, fun i y hy => ?_⟩
            obtain ⟨_, b', o', e', _, hr'⟩ := hL.2 i y hy
            rw [e] at e'
            injection e' with e'
            injection e' with e1 e2 _
            subst e1; subst e2
            exact hr'
          have HABL := hide hab
          clear hab
          go_loopw [14] (fun i wy => ∃ q : Nat, q ≤ wn ∧ i = .int .i64 q ∧ wy.heap[gt]? = some (.cells (intsV (topN (W.take q))).toArray 3 (0, 0)) ∧ Off [gt] w6 wy) (fun i _ => wn - (iv i).toNat)
          case atStart => exact ⟨0, by omega, rfl, HT6.out, Off.refl _ _⟩
          case round =>
            obtain ⟨q, hqn, rfl, hTq, hOq⟩ := hrel
            have HTQ := hide hTq
            have HOQ := hide hOq
            clear hTq hOq
            by_cases hqlt : q < wn
            · obtain ⟨b, o, hal, hbg, hrg⟩ := HABL.out (by omega)
              subst hal
              obtain ⟨x, hx⟩ : ∃ x, W[q]? = some x := ⟨_, List.getElem?_eq_getElem (by rw [HWL.out]; exact hqlt)⟩
              have HXI := hide hx
              have HXM := hide (HHM.out q x hx)
              have hbk := (HRW.out _ HOQ.out).2.2 b hbg
              have HRX : Hid (wr.rangeAt b (o + q * 12) (lnCells x)) := fun i v hv => (World.cell?_of_block (a := ⟨b, o + q * 12 + i, none⟩) hbk).trans (hrg q x hx i v hv)
              have HRR : Hid (wr.rangeAt b (o + q * 12 + 1) (recCells x)) := rec_of_ln HRX.out
              have l0 : wr.cell? ⟨b, o + q * 12, none⟩ = some (.int .i64 x.lsn) := HRX.out 0 _ rfl
              have tl := topN_len (W.take q)
              have hp1 := HXM.out.p1
              have hp2 := HXM.out.p2
              obtain ⟨p0, hp0⟩ : ∃ p0 : Nat, x.page = (p0 : Int) := ⟨x.page.toNat, by omega⟩
              have hp3 : p0 ≤ 3 := by omega
              have k8 := (arr_cell HTQ.out p0 (by omega)).1
              have f8 := (arr_cell HTQ.out p0 (by omega)).2
              obtain ⟨ov, hov⟩ : ∃ ov, (topN (W.take q)).getD p0 0 = ov := ⟨_, rfl⟩
              rw [hov] at k8
              have HP0 := hide hp0
              unfold recCells at HRR
              clear hov hp0 hp1 hp2 hx hrg hbk tl HRX
              go_upto_region 25 with (refine wpList_load_mid (by rfl) 32 _ (by rfl) b (o + q * 12 + 1) (by rfl) _ _ HRR.out Try.underlying32 rfl Try.size32n ?_)
              generalize hx7 : wr.alloc _ = x7
              have hG7 : x7.heap[wr.heap.size]? = some (.cells (recCells x).toArray 32 (0, 0)) := by rw [← hx7]; exact heap_alloc_new _ _
              have hBx : Below wr.heap.size wr x7 := by rw [← hx7]; exact (Below.refl _ _).alloc (Nat.le_refl _) _
              have HO7 : Hid (Off [gt] w6 x7) := by show Off _ _ _; rw [← hx7]; exact HOQ.out.alloc _
              have hgl := (Array.getElem?_eq_some_iff.1 HTQ.out).1
              have HT7 : Hid (x7.heap[gt]? = some (.cells (intsV (topN (W.take q))).toArray 3 (0, 0))) := (hBx.block gt hgl).trans HTQ.out
              have c0 : x7.cell? ⟨wr.heap.size, 0, none⟩ = some (.int .i64 x.kind) := by rw [cell_of_row _ _ _ _ _ _ hG7]; rfl
              have c4 : x7.cell? ⟨wr.heap.size, 4, none⟩ = some (.int .i64 (p0 : Int)) := by rw [cell_of_row _ _ _ _ _ _ hG7, ← HP0.out]; rfl
              have l0' : x7.cell? ⟨b, o + q * 12, none⟩ = some (.int .i64 x.lsn) := (hBx.cell (p := ⟨b, o + q * 12, none⟩) (World.block_lt_of_cell? _ _ l0)).trans l0
              have k8' : x7.cell? ⟨gt, p0, none⟩ = some (.int .i64 ov) := (hBx.cell (p := ⟨gt, p0, none⟩) hgl).trans k8
              have f8' : x7.frozen? ⟨gt, p0, none⟩ = false := frozen_of_row _ _ _ _ _ HT7.out
              have HTS : Hid (topN (W.take (q + 1)) = top1 (topN (W.take q)) x) := by show _ = _; rw [take_snoc HXI.out, topN_snoc]
              have HCH : Hid (x.changes = (x.kind == 2 || x.kind == 3)) := rfl
              clear hx7 hG7 hBx hgl l0 k8 f8 HRR HTQ HOQ
              generalize wr.heap.size = g15 at *
              obtain ⟨xk, hxk⟩ : ∃ xk, x.kind = xk := ⟨_, rfl⟩
              rw [hxk] at c0 HCH
              clear hxk
              obtain ⟨zl, hzl⟩ : ∃ zl, x.lsn = zl := ⟨_, rfl⟩
              rw [hzl] at l0'
              have HZL := hide hzl
              clear hzl
              by_cases h2 : xk = 2
              · subst h2
                go_upto_region 26 with fail
                go_region
                go_wp2
                go_roundw
                case rel =>
                  refine ⟨q + 1, by omega, by go_num, ?_, (HO7.out.setCell _ _ (.inl (by simp))).drewN 1⟩
                  rw [HTS.out]
                  unfold top1
                  rw [if_pos ⟨HCH.out.trans (by simp), by rw [HP0.out]; omega, by rw [HP0.out]; omega⟩, HP0.out, HZL.out]
                  exact arr_set HT7.out p0 zl
                case measure => simp [iv]; omega
              · by_cases h3 : xk = 3
                · subst h3
                  go_upto_region 26 with fail
                  go_region
                  go_wp2
                  go_roundw
                  case rel =>
                    refine ⟨q + 1, by omega, by go_num, ?_, (HO7.out.setCell _ _ (.inl (by simp))).drewN 1⟩
                    rw [HTS.out]
                    unfold top1
                    rw [if_pos ⟨HCH.out.trans (by simp), by rw [HP0.out]; omega, by rw [HP0.out]; omega⟩, HP0.out, HZL.out]
                    exact arr_set HT7.out p0 zl
                  case measure => simp [iv]; omega
                · have hb2 : (xk == 2) = false := beq_eq_false_iff_ne.2 h2
                  have hb3 : (xk == 3) = false := beq_eq_false_iff_ne.2 h3
                  have HCF : Hid (x.changes = false) := HCH.out.trans (by simp [h2, h3])
                  clear h2 h3 HCH
                  go_wp2
                  go_roundw
                  case rel =>
                    refine ⟨q + 1, by omega, by go_num, ?_, HO7.out⟩
                    rw [HTS.out]
                    unfold top1
                    rw [if_neg (by rw [HCF.out]; simp)]
                    exact HT7.out
                  case measure => simp [iv]; omega
            · obtain rfl : q = wn := by omega
              have hWt : W.take q = W := List.take_of_length_le (by rw [HWL.out]; exact Nat.le_refl _)
              rw [hWt] at HTQ
              obtain ⟨hLG, hBw, hbl⟩ := HRW.out _ HOQ.out
              have hk7 : ∀ x ∈ W, x.kind ≠ 7 := fun x hx => by obtain ⟨i, hi⟩ := HHM.out.mem x hx; have := hi.k2; omega
              have HAM := hide (analyzeM wr ⟨al, W.length, cl⟩ W rfl hLG.lines (by rw [HWL.out]; omega) HHM.out hk7)
              have HBYr : Hid (BytesOk wr S.L) := fun r hr hk => by
                obtain ⟨g, v, e, hg⟩ := HBY.out r hr hk
                have hl := (Array.getElem?_eq_some_iff.1 hg).1
                have h2 := HB2.out.size
                have h3 := HB3.out.size
                have h4 := HB34.out.size
                have h8 := HG8.out
                have h9 := HS4.out
                have h10 := HLI.out.size
                have h11 := HGT.out
                refine ⟨g, v, e, ?_⟩
                exact (hbl g (by omega)).trans ((HLI.out.keep g (by omega) (HAP.out r hr hk g e) (by omega)).trans ((HB34.out.block g (by omega)).trans ((HB3.out.block g (by omega)).trans ((HB2.out.block g hl).trans hg))))
              have HLGr := hide hLG
              have HBWr := hide hBw
              have htop := (topN_top HHM.out q (by rw [HWL.out]; exact Nat.le_refl _))
              rw [hWt] at htop
              have HTOP := hide htop
              rw [HWL.out] at HAM
              clear hqlt hqn hWt hLG hBw hbl hk7 htop HRW HABL HT6 HLI HROWr
              go_upto_region 29 with (go_at_call 9; refine HAM.out.mono ?_; rintro e w8 ⟨av, cv, vs, ae, ce, es, C1, rfl, hvt, hv12, hvx, hes, he12, hed, hB8⟩; have HVT := hide hvt; have HVX := hide hvx; have HES := hide hes; have HED := hide hed; have HB8 := hide hB8; clear hvt hvx hes hed hB8)
              have HST : Hid (∀ t ∈ vs, t.st = 2) := txns_st HVT.out (fun k tx hT => by
                rw [← HWW.out] at hT
                exact whole_T HC.out HUD.out (by rw [HLN.out]; exact HMO.out.2) (by rw [HMO.out.1, HUNN.out]) k tx hT)
              have hde : ds.length ≤ es.length := by
                have h := HES.out
                rw [← HWW.out] at h
                exact dirt_more HDS.out h
              rw [HDN.out] at hde
              have HUN2 := hide (undoNone w8 ⟨al, W.length, cl⟩ W { HLGr.out with lines := HLGr.out.lines.below HB8.out } HHM.out.rises (by rw [HWL.out]; omega) (bsAt wr) (fun r hr hk => by
                refine HBYr.out.byt HB8.out r ?_ hk
                rw [← HWW.out] at hr
                rcases List.mem_append.1 hr with hr | hr
                · exact hr
                · obtain ⟨o, ho, hok, _⟩ := HMO.out.2.mem hr
                  have := (HUD.out.ho o ho).kind
                  omega) av cv vs HVX.out hv12 HST.out)
              obtain ⟨vn, hvn⟩ : ∃ vn, vs.length = vn := ⟨_, rfl⟩
              have HVN := hide hvn
              obtain ⟨en, hen⟩ : ∃ en, es.length = en := ⟨_, rfl⟩
              have HEN := hide hen
              rw [hvn] at HUN2 hv12 ⊢
              rw [hen] at he12 hde ⊢
              rw [HWL.out] at HUN2
              clear hvn hen HAM
              have HAW := hide (fun W => awake_any W)
              go_loopw [19] (fun i wz => ∃ r : Nat, r ≤ vn ∧ i = .int .i64 r ∧ wz = w8) (fun i _ => vn - (iv i).toNat)
              case atStart => exact ⟨0, by omega, rfl, rfl⟩
              case round =>
                obtain ⟨r, hrn, rfl, rfl⟩ := hrel
                by_cases hrlt : r < vn
                · obtain ⟨y, hy⟩ : ∃ y, vs[r]? = some y := ⟨_, List.getElem?_eq_getElem (by rw [HVN.out]; exact hrlt)⟩
                  obtain ⟨b, o, hav, hb2, hrg⟩ := HVX.out r y hy
                  have s2 : wr.cell? ⟨b, o + r * 3 + 2, none⟩ = some (.int .i64 y.st) := hrg 2 _ rfl
                  rw [HST.out y (List.mem_of_getElem? hy)] at s2
                  clear hrg hy
                  subst hav
                  go_wp2
                  go_roundw
                  case rel => exact ⟨r + 1, by omega, by go_num, trivial⟩
                  case measure => simp [iv]; omega
                · obtain rfl : r = vn := by omega
                  clear hrlt hrn
                  have HRE : Hid (∀ w9, Below wr.heap.size wr w9 → Calls Try.prog 16 #[.slice al q cl, .slice ae en ce, .func (.func 36) #[] #[.pointer (some ⟨w9.heap.size, 0, none⟩)]] (w9.alloc (.cells #[.slice (some ⟨gt, 0, none⟩) 4 4] 49)) fun e w' => ∃ (av : Option Addr) (cv : Nat), e = .returned (.slice av 0 cv) ∧ Below (w9.alloc (.cells #[.slice (some ⟨gt, 0, none⟩) 4 4] 49)).heap.size (w9.alloc (.cells #[.slice (some ⟨gt, 0, none⟩) 4 4] 49)) w') := fun w9 hb9 => by
                    have hb10 : Below wr.heap.size wr (w9.alloc (.cells #[.slice (some ⟨gt, 0, none⟩) 4 4] 49)) := hb9.alloc hb9.size _
                    have hin : ∀ v ∈ topN W, In64 v := fun v hv => by have := HTOP.out.1 v hv; unfold In64; omega
                    have hl4 := topN_len W
                    have h := redoNone (askLsns w9.heap.size (some ⟨gt, 0, none⟩) 4 (topN W) hin) (w9.alloc (.cells #[.slice (some ⟨gt, 0, none⟩) 4 4] 49)) ⟨al, W.length, cl⟩ W ae es ce ⟨?_, ?_⟩ { HLGr.out with lines := (HLGr.out.lines.below HB8.out).below hb10 } HHM.out.rises ?_ (by rw [HWL.out]; omega) (by rw [HEN.out]; exact he12) (fun x hx hc => ?_)
                    · rw [HWL.out, HEN.out] at h
                      exact h
                    · rw [hl4]
                      exact heap_alloc_new _ _
                    · refine ⟨by rw [hl4]; omega, fun i v hv => ⟨hin v (List.mem_of_getElem? hv), gt, 0, rfl, ?_, ?_⟩⟩
                      · exact Nat.lt_of_lt_of_le (Nat.lt_of_lt_of_le (Array.getElem?_eq_some_iff.1 HTQ.out).1 HB8.out.size) hb10.size
                      · have hi := (List.getElem?_eq_some_iff.1 hv).1
                        have hc := (arr_cell HTQ.out i hi).1
                        rw [List.getD_eq_getElem?_getD, hv] at hc
                        rw [Nat.zero_add]
                        have hgl := (Array.getElem?_eq_some_iff.1 HTQ.out).1
                        exact (hb10.cell (p := ⟨gt, i, none⟩) (Nat.lt_of_lt_of_le hgl HB8.out.size)).trans ((HB8.out.cell (p := ⟨gt, i, none⟩) hgl).trans hc)
                    · refine ⟨HED.out.1, fun i x hx => ?_⟩
                      obtain ⟨h1, h2, b, o, h3, h4, h5⟩ := HED.out.2 i x hx
                      exact ⟨h1, h2, b, o, h3, Nat.lt_of_lt_of_le h4 hb10.size, fun j v hv => (hb10.cell (p := ⟨b, o + i * 2 + j, none⟩) h4).trans (h5 j v hv)⟩
                    · obtain ⟨i, hi⟩ := List.mem_iff_getElem?.1 hx
                      exact HTOP.out.2 i x (by rw [← HWL.out]; exact (List.getElem?_eq_some_iff.1 hi).1) hi hc
                  go_wp2_with (first
                    | (go_at_call 19; refine HUN2.out.mono ?_; rintro e w9 ⟨a9, c9, rfl, hb9⟩; have HB9 := hide hb9; clear hb9)
                    | (go_at_call 17; refine (lsns_any _ _ _ _).mono ?_; rintro e w10 ⟨rfl, rfl⟩)
                    | (go_at_call 16; refine (HRE.out _ HB9.out).mono ?_; rintro e w11 ⟨a11, c11, rfl, hb11⟩; have HB11 := hide hb11; clear hb11)
                    | (go_at_call 10; refine (HAW.out _).mono ?_; rintro e w12 ⟨rfl, hb12⟩; have HB12 := hide hb12; clear hb12))
                  go_ret
                  have hb8 : Below w.heap.size w wr := HBWr.out.trans (HB8.out.mono HBWr.out.size)
                  have hb9 : Below w.heap.size w w9 := hb8.trans (HB9.out.mono hb8.size)
                  have hb10 := hb9.alloc hb9.size (.cells #[.slice (some ⟨gt, 0, none⟩) 4 4] 49)
                  have hb11 := hb10.trans (HB11.out.mono hb10.size)
                  exact ⟨rfl, hb11.trans (HB12.out.mono hb11.size)⟩
end Go.Proofs.Ytpjppolbkdnkaaa
