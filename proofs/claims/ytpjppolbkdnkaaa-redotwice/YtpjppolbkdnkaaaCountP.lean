/- RedoCounts: its pure side. -/
import Derived.Test.YtpjppolbkdnkaaaHistQ
namespace Go.Proofs.Ytpjppolbkdnkaaa
open Go.RowKit
set_option linter.unusedVariables false
set_option linter.unusedSimpArgs false

theorem and_wide (n : Int) (m : Nat) (hm : m ≤ 1000000) : ∃ k : Nat, k ≤ m ∧ bits .and .i64 n (m : Int) = (k : Int) := by
  refine ⟨((BitVec.ofInt 64 n) &&& (BitVec.ofInt 64 (m : Int))).toNat, ?_, ?_⟩
  · rw [BitVec.toNat_and]
    refine Nat.le_trans Nat.and_le_right ?_
    rw [BitVec.toNat_ofInt]
    omega
  · have hle : ((BitVec.ofInt 64 n) &&& (BitVec.ofInt 64 (m : Int))).toNat ≤ m := by
      rw [BitVec.toNat_and]
      refine Nat.le_trans Nat.and_le_right ?_
      rw [BitVec.toNat_ofInt]
      omega
    show IntKind.i64.wrap ((((BitVec.ofInt 64 n) &&& (BitVec.ofInt 64 (m : Int))).toNat : Nat) : Int) = _
    generalize ((BitVec.ofInt 64 n) &&& (BitVec.ofInt 64 (m : Int))).toNat = k at hle
    unfold IntKind.wrap
    have h1 : ((k : Nat) : Int) % 2 ^ IntKind.i64.bits = (k : Int) := Int.emod_eq_of_lt (by omega) (by show (k : Int) < 2 ^ 64; omega)
    simp only [h1]
    rw [if_neg]
    intro h
    rw [Bool.and_eq_true] at h
    have := of_decide_eq_true h.2
    have h2 : (2 : Int) ^ (IntKind.i64.bits - 1) = 9223372036854775808 := by decide
    omega

/-- What a history's i-th line is like. -/
structure Hl (i : Nat) (x : Ln) : Prop where
  lsn : x.lsn = 10 * ((i : Int) + 1)
  k1 : 1 ≤ x.kind
  k2 : x.kind ≤ 4
  t1 : 1 ≤ x.txn
  t2 : x.txn ≤ 4
  p1 : 0 ≤ x.page
  p2 : x.page ≤ 3
  o1 : 0 ≤ x.off
  o2 : x.off ≤ 7
  v1 : 0 ≤ x.prev
  v2 : x.prev ≤ 10 * (i : Int)
  n1 : 0 ≤ x.next
  n2 : x.next ≤ 10 * (i : Int)
  c : x.count = 0
theorem Hl.ok {i : Nat} {x : Ln} (h : Hl i x) (hi : i ≤ 1000) : x.ok := by
  obtain ⟨h1, h2, h3, h4, h5, h6, h7, h8, h9, h10, h11, h12, h13, h14⟩ := h
  constructor <;> unfold In64 <;> omega
structure HLs (S : Hs) : Prop where
  L : ∀ (i : Nat) (x : Ln), S.L[i]? = some x → Hl i x
  last : ∀ v ∈ S.last, 0 ≤ v ∧ v ≤ 10 * (S.L.length : Int)
theorem HLs.init : HLs Hs.init where
  L := fun i x hx => by simp [Hs.init] at hx
  last := fun v hv => by simp [Hs.init] at hv; subst hv; simp [Hs.init]
theorem HLs.put {S S2 : Hs} (h : HLs S) (e1 : S2.L = S.L) (e2 : S2.last = S.last) {t : Nat} {r : Ln} (hr : Hl S.L.length r) : HLs (S2.put t r) where
  L := fun i x hx => by
    have hx : (S2.L ++ [r])[i]? = some x := hx
    rw [e1] at hx
    by_cases hi : i < S.L.length
    · rw [List.getElem?_append_left hi] at hx; exact h.L i x hx
    · rw [List.getElem?_append_right (by omega)] at hx
      have h0 : i - S.L.length = 0 := by
        have := (List.getElem?_eq_some_iff.1 hx).1
        simp at this
        omega
      rw [h0] at hx
      simp at hx
      subst hx
      have : i = S.L.length := by omega
      rw [this]; exact hr
  last := fun v hv => by
    have hv : v ∈ S2.last.set t r.lsn := hv
    have hlen : (S2.put t r).L.length = S.L.length + 1 := by simp [Hs.put, e1]
    rw [hlen]
    rcases List.mem_or_eq_of_mem_set hv with h1 | h1
    · rw [e2] at h1
      have := h.last v h1
      omega
    · have := hr.lsn
      omega
theorem HLs.lastAt {S : Hs} (h : HLs S) (t : Nat) : 0 ≤ S.lastAt t ∧ S.lastAt t ≤ 10 * (S.L.length : Int) := by
  unfold Hs.lastAt
  rw [List.getD_eq_getElem?_getD]
  cases hx : S.last[t]? with
  | none => simp; omega
  | some v => exact h.last v (List.mem_of_getElem? hx)
theorem HLs.step {i : Nat} {x : St} {S S' : Hs} {K K' : List (Nat × Obj)} (h : HLs S) (hs : HStep i x S K S' K') : HLs S' := by
  have ht := tOf_le x
  have hl := h.lastAt (tOf x)
  cases hs using HStep.ind with
  | skip => exact h
  | begin _ _ =>
    refine HLs.put (S := S) h ?_ ?_ ?_ <;> try exact rfl
    refine ⟨rfl, ?_, ?_, ?_, ?_, ?_, ?_, ?_, ?_, hl.1, hl.2, ?_, ?_, rfl⟩ <;> simp [Hs.rec0, Ln.zero] <;> omega
  | commit _ _ _ =>
    refine HLs.put (S := S) h ?_ ?_ ?_ <;> try exact rfl
    refine ⟨rfl, ?_, ?_, ?_, ?_, ?_, ?_, ?_, ?_, hl.1, hl.2, ?_, ?_, rfl⟩ <;> simp [Hs.rec0, Ln.zero] <;> omega
  | undo _ _ _ l k u e hu =>
    have hk := (List.getElem?_eq_some_iff.1 hu).1
    obtain ⟨h1, h2, h3, h4, h5, h6, h7, h8, h9, h10, h11, h12, h13, h14⟩ := h.L k u hu
    refine HLs.put (S := S) h ?_ ?_ ?_ <;> try exact rfl
    refine ⟨rfl, ?_, ?_, ?_, ?_, h6, h7, h8, h9, hl.1, hl.2, h10, ?_, rfl⟩
    · simp
    · simp
    · simp [Hs.rec0]; omega
    · simp [Hs.rec0]; omega
    · show u.prev ≤ _; omega
  | update _ _ _ _ g1 g2 =>
    obtain ⟨a, ha, ea⟩ := and_small x.page 3 (by omega)
    obtain ⟨b, hb, eb⟩ := and_small x.off 7 (by omega)
    have ea : bits .and .i64 x.page 3 = (a : Int) := ea
    have eb : bits .and .i64 x.off 7 = (b : Int) := eb
    refine HLs.put (S := S) h ?_ ?_ ?_ <;> try exact rfl
    refine ⟨rfl, ?_, ?_, ?_, ?_, ?_, ?_, ?_, ?_, hl.1, hl.2, ?_, ?_, rfl⟩
    · simp
    · simp
    · simp [Hs.rec0]; omega
    · simp [Hs.rec0]; omega
    · show 0 ≤ bits .and .i64 x.page 3; rw [ea]; omega
    · show bits .and .i64 x.page 3 ≤ 3; rw [ea]; omega
    · show 0 ≤ bits .and .i64 x.off 7; rw [eb]; omega
    · show bits .and .i64 x.off 7 ≤ 7; rw [eb]; omega
    · simp [Hs.rec0, Ln.zero]
    · simp [Hs.rec0, Ln.zero]; omega
theorem HRun.lines {X : List St} {i : Nat} {S : Hs} {K : List (Nat × Obj)} (h : HRun X i S K) : HLs S := by
  induction h using HRun.ind with
  | nil => exact HLs.init
  | step i x S K S' K' h hx hs ih => exact ih.step hs

def com (x : Ln) : Int := if x.kind = 4 then 1 else 0
def comN : List Ln → Int
  | [] => 0
  | x :: l => com x + comN l
theorem comN_append : ∀ (a b : List Ln), comN (a ++ b) = comN a + comN b
  | [], b => by simp [comN]
  | x :: a, b => by rw [List.cons_append, comN, comN_append a b, comN]; omega
theorem learn1_C (s : An) (x : Ln) (h : 1 ≤ x.txn) : (learn1 s x).C = s.C + com x := by
  have h0 : x.txn > 0 := by omega
  unfold learn1
  simp only [h0, if_true]
  unfold follow1 com
  split
  · rfl
  · simp only [Int.add_zero]
    split
    · rfl
    · split <;> rfl
theorem learnN_cons (s : An) (x : Ln) (L : List Ln) : learnN s (x :: L) = learnN (learn1 s x) L := rfl
theorem learnN_C : ∀ (L : List Ln) (s : An), (∀ x ∈ L, 1 ≤ x.txn) → (learnN s L).C = s.C + comN L
  | [], s, _ => by simp [learnN, comN]
  | x :: L, s, h => by
    rw [learnN_cons, learnN_C L _ (fun y hy => h y (List.mem_cons_of_mem _ hy)), learn1_C s x (h x List.mem_cons_self), comN]
    omega
def hits (p : Int) (x : Ln) : Bool := x.changes && x.page == p
def firstOf (p : Int) : List Ln → Option Int
  | [] => none
  | x :: l => if hits p x then some x.lsn else firstOf p l
theorem learn1_F (s : An) (x : Ln) (p : Int) : (learn1 s x).F p = match s.F p with | some v => some v | none => if hits p x then some x.lsn else none := by
  show (if x.changes = true ∧ s.F x.page = none then updI s.F x.page x.lsn else s.F) p = _
  unfold hits
  by_cases hc : x.changes = true
  · by_cases hp : x.page = p
    · subst hp
      cases hf : s.F x.page with
      | none => simp [hc, hf, updI]
      | some v => simp [hf]
    · have hp2 : ¬ p = x.page := fun e => hp e.symm
      have hpb : (x.page == p) = false := beq_eq_false_iff_ne.2 hp
      rw [hpb]
      split
      · simp only [updI, if_neg hp2, Bool.and_false]
        cases s.F p <;> rfl
      · cases s.F p <;> simp
  · have hcb : x.changes = false := by simpa using hc
    simp [hcb]
    cases s.F p <;> rfl
theorem learnN_F (p : Int) : ∀ (L : List Ln) (s : An), (learnN s L).F p = match s.F p with | some v => some v | none => firstOf p L
  | [], s => by
    show s.F p = _
    cases s.F p <;> rfl
  | x :: L, s => by
    rw [learnN_cons, learnN_F p L, learn1_F]
    cases s.F p with
    | some v => rfl
    | none =>
      show (match (if hits p x then some x.lsn else none) with | some v => some v | none => firstOf p L) = if hits p x then some x.lsn else firstOf p L
      cases hits p x <;> rfl
theorem learn1_T (s : An) (x : Ln) (k : Int) (h : ((learn1 s x).T k).isSome = true) : (s.T k).isSome = true ∨ x.txn = k := by
  by_cases hk : x.txn = k
  · exact .inr hk
  · refine .inl ?_
    have hk2 : ¬ k = x.txn := fun e => hk e.symm
    unfold learn1 at h
    simp only at h
    split at h
    · unfold follow1 at h
      split at h
      · simpa [updT, hk2] using h
      · split at h
        · simpa [updT, hk2] using h
        · split at h
          · simpa [delT, hk2] using h
          · simpa [updT, hk2] using h
    · exact h
theorem learnN_T (k : Int) : ∀ (L : List Ln) (s : An), ((learnN s L).T k).isSome = true → (s.T k).isSome = true ∨ ∃ x ∈ L, x.txn = k
  | [], s, h => .inl h
  | x :: L, s, h => by
    rw [learnN_cons] at h
    rcases learnN_T k L _ h with h | ⟨y, hy, e⟩
    · rcases learn1_T s x k h with h | h
      · exact .inl h
      · exact .inr ⟨x, List.mem_cons_self, h⟩
    · exact .inr ⟨y, List.mem_cons_of_mem _ hy, e⟩
theorem nodup_le : ∀ (l P : List Int), l.Nodup → (∀ x ∈ l, x ∈ P) → l.length ≤ P.length
  | [], P, _, _ => by simp
  | a :: l, P, hn, h => by
    have ha := h a List.mem_cons_self
    rw [List.nodup_cons] at hn
    have := nodup_le l (P.erase a) hn.2 (fun x hx => (List.mem_erase_of_ne (fun e => hn.1 (by rw [← e]; exact hx))).2 (h x (List.mem_cons_of_mem _ hx)))
    rw [List.length_erase_of_mem ha] at this
    have h0 : 0 < P.length := List.length_pos_of_mem ha
    simp
    omega
theorem firstOf_some (p v : Int) : ∀ (L : List Ln), firstOf p L = some v → ∃ x ∈ L, x.page = p ∧ x.lsn = v
  | [], h => by simp [firstOf] at h
  | x :: L, h => by
    unfold firstOf at h
    split at h
    · rename_i hx
      unfold hits at hx
      rw [Bool.and_eq_true] at hx
      injection h with h
      exact ⟨x, List.mem_cons_self, by simpa using hx.2, h⟩
    · obtain ⟨y, hy, e⟩ := firstOf_some p v L h
      exact ⟨y, List.mem_cons_of_mem _ hy, e⟩

/-- The log with a line c put in ahead of line k, from the first i lines. -/
def putC (L : List Ln) (k : Nat) (c : Ln) (i : Nat) : List Ln := if i ≤ k then L.take i else L.take k ++ c :: (L.take i).drop k
theorem take_snoc {L : List Ln} {i : Nat} {x : Ln} (hx : L[i]? = some x) : L.take (i + 1) = L.take i ++ [x] := by
  obtain ⟨hl, e⟩ := List.getElem?_eq_some_iff.1 hx
  rw [List.take_succ_eq_append_getElem hl, e]
theorem putC_at {L : List Ln} {k : Nat} {c x : Ln} (hx : L[k]? = some x) : putC L k c (k + 1) = putC L k c k ++ [c] ++ [x] := by
  unfold putC
  rw [if_neg (by omega), if_pos (Nat.le_refl _), take_snoc hx]
  have hl := (List.getElem?_eq_some_iff.1 hx).1
  rw [List.drop_append_of_le_length (by rw [List.length_take]; omega), List.drop_of_length_le (by rw [List.length_take]; omega)]
  simp
theorem putC_ne {L : List Ln} {k i : Nat} {c x : Ln} (hx : L[i]? = some x) (hne : i ≠ k) : putC L k c (i + 1) = putC L k c i ++ [x] := by
  have hl := (List.getElem?_eq_some_iff.1 hx).1
  unfold putC
  by_cases h : i < k
  · rw [if_pos (by omega), if_pos (by omega), take_snoc hx]
  · rw [if_neg (by omega), if_neg (by omega), take_snoc hx]
    rw [List.drop_append_of_le_length (by rw [List.length_take]; omega)]
    simp
theorem putC_length {L : List Ln} {k i : Nat} {c : Ln} (hk : k < L.length) (hi : i ≤ L.length) : (putC L k c i).length = if i ≤ k then i else i + 1 := by
  unfold putC
  split
  · simp; omega
  · simp; omega
theorem putC_all {L : List Ln} {k : Nat} {c : Ln} (hk : k < L.length) : putC L k c L.length = L.take k ++ c :: L.drop k := by
  unfold putC
  rw [if_neg (by omega), List.take_length]
/-- How many commits there are from line k on among the first i. -/
def comK (L : List Ln) (k i : Nat) : Int := comN ((L.take i).drop k)
theorem comK_lt {L : List Ln} {k i : Nat} (h : i ≤ k) : comK L k i = 0 := by
  unfold comK
  rw [List.drop_of_length_le (by rw [List.length_take]; omega)]
  rfl
theorem comK_step {L : List Ln} {k i : Nat} {x : Ln} (hx : L[i]? = some x) (h : k ≤ i) : comK L k (i + 1) = comK L k i + com x := by
  unfold comK
  have hl := (List.getElem?_eq_some_iff.1 hx).1
  rw [take_snoc hx, List.drop_append_of_le_length (by rw [List.length_take]; omega), comN_append]
  simp [comN]
theorem comK_all {L : List Ln} {k : Nat} : comK L k L.length = comN (L.drop k) := by
  unfold comK
  rw [List.take_length]
theorem com_le (x : Ln) : 0 ≤ com x ∧ com x ≤ 1 := by unfold com; split <;> omega
theorem comK_le (L : List Ln) (k : Nat) : ∀ i, 0 ≤ comK L k i ∧ comK L k i ≤ i := fun i => by
  unfold comK
  have h : ∀ l : List Ln, 0 ≤ comN l ∧ comN l ≤ l.length := fun l => by
    induction l with
    | nil => simp [comN]
    | cons x l ih => have := com_le x; rw [comN, List.length_cons]; omega
  have h1 := h ((L.take i).drop k)
  have h2 : ((L.take i).drop k).length ≤ i := by simp; omega
  omega
theorem firstOf_drop {L : List Ln} {j : Nat} {x : Ln} (p : Int) (hx : L[j]? = some x) : firstOf p (L.drop j) = if hits p x then some x.lsn else firstOf p (L.drop (j + 1)) := by
  obtain ⟨hl, e⟩ := List.getElem?_eq_some_iff.1 hx
  rw [List.drop_eq_getElem_cons hl, e]
  rfl

section
variable {L : List Ln} {k : Nat} {C : Int}
/-- What the analysis learns behind the checkpoint. -/
def anaC (L : List Ln) (k : Nat) (C : Int) : An := learnN ⟨noTx, soil noMap [(9, 2)], C⟩ (L.drop k)
theorem soil9 (p : Int) : soil noMap [(9, 2)] p = if p = 9 then some 2 else none := by
  simp [soil, soil1, noMap, updI]
theorem anaC_F (p : Int) : (anaC L k C).F p = if p = 9 then some 2 else firstOf p (L.drop k) := by
  unfold anaC
  rw [learnN_F]
  simp only [soil9]
  split <;> simp_all
theorem anaC_C (h : ∀ (i : Nat) (x : Ln), L[i]? = some x → Hl i x) : (anaC L k C).C = C + comN (L.drop k) := by
  unfold anaC
  refine learnN_C _ _ (fun x hx => ?_)
  obtain ⟨i, hi⟩ := List.mem_iff_getElem?.1 (List.mem_of_mem_drop hx)
  exact (h i x hi).t1
theorem anaC_12F (h : ∀ (i : Nat) (x : Ln), L[i]? = some x → Hl i x) : ∀ ds, EntsD (anaC L k C).F ds → ds.length ≤ 12 := fun ds hd => by
  have := nodup_le (ds.map Prod.fst) [0, 1, 2, 3, 9] hd.1 (fun p hp => by
    obtain ⟨y, hy, rfl⟩ := List.mem_map.1 hp
    have h1 := (hd.2.1 y hy).2
    rw [anaC_F] at h1
    split at h1
    · rename_i e; rw [e]; simp
    · obtain ⟨x, hx, e1, _⟩ := firstOf_some _ _ _ h1
      obtain ⟨i, hi⟩ := List.mem_iff_getElem?.1 (List.mem_of_mem_drop hx)
      have h2 := (h i x hi).p1
      have h3 := (h i x hi).p2
      rw [e1] at h2 h3
      simp
      omega)
  rw [List.length_map] at this
  simp at this
  omega
theorem ana_12T {s : An} {Y : List Ln} (hs : s.T = noTx) (h : ∀ x ∈ Y, 1 ≤ x.txn ∧ x.txn ≤ 4) : ∀ ss, ValsT (learnN s Y).T ss → ss.length ≤ 12 := fun ss hd => by
  obtain ⟨ks, h1, h2, h3, h4⟩ := hd
  have := nodup_le ks [1, 2, 3, 4] h1 (fun q hq => by
    have h5 : ((learnN s Y).T q).isSome = true := by
      have : (learnN s Y).T q ∈ ks.map (learnN s Y).T := List.mem_map.2 ⟨q, hq, rfl⟩
      rw [h2] at this
      obtain ⟨y, _, e⟩ := List.mem_map.1 this
      rw [← e]; rfl
    rcases learnN_T q Y s h5 with h6 | ⟨x, hx, rfl⟩
    · rw [hs] at h6; simp [noTx] at h6
    · have := h x hx
      simp
      omega)
  have e := congrArg List.length h2
  rw [List.length_map, List.length_map] at e
  simp at this
  omega
theorem anaC_12T (h : ∀ (i : Nat) (x : Ln), L[i]? = some x → Hl i x) : ∀ ss, ValsT (anaC L k C).T ss → ss.length ≤ 12 :=
  ana_12T rfl (fun x hx => by
    obtain ⟨i, hi⟩ := List.mem_iff_getElem?.1 (List.mem_of_mem_drop hx)
    exact ⟨(h i x hi).t1, (h i x hi).t2⟩)
end
end Go.Proofs.Ytpjppolbkdnkaaa
