/- The document's Redo, on lists; and that it tells what the program's does. -/
import Derived.Test.YtpjppolbkdnkaaaTo
namespace Go.Proofs.Ytpjppolbkdnkaaa
open Go.RowKit
set_option linter.unusedVariables false
set_option linter.unusedSimpArgs false

/-- The last of a page in a list, up to k. -/
def lastOf (D : List (Int × Int)) (p : Int) : Nat → Option Int
  | 0 => none
  | k + 1 => match D[k]? with
    | some d => if d.1 = p then some d.2 else lastOf D p k
    | none => lastOf D p k
def lastIdx (N : List (Int × Int)) (p : Int) : Nat → Int
  | 0 => -1
  | k + 1 => match N[k]? with
    | some d => if d.1 = p then (k : Int) else lastIdx N p k
    | none => lastIdx N p k
theorem lastOf_eq (D : List (Int × Int)) (p : Int) (k : Nat) (d : Int × Int) (h : D[k]? = some d) : lastOf D p (k + 1) = if d.1 = p then some d.2 else lastOf D p k := by simp [lastOf, h]
theorem lastIdx_eq (D : List (Int × Int)) (p : Int) (k : Nat) (d : Int × Int) (h : D[k]? = some d) : lastIdx D p (k + 1) = if d.1 = p then (k : Int) else lastIdx D p k := by simp [lastIdx, h]
/-- A page's place: none, or one that holds it. -/
theorem lastIdx_cases (N : List (Int × Int)) (p : Int) : ∀ k, k ≤ N.length → (lastIdx N p k = -1 ∧ ∀ i < k, ∀ d, N[i]? = some d → d.1 ≠ p) ∨ ∃ (a : Nat) (d : Int × Int), a < k ∧ N[a]? = some d ∧ d.1 = p ∧ lastIdx N p k = (a : Int)
  | 0, _ => .inl ⟨rfl, fun i hi => by omega⟩
  | k + 1, h => by
    obtain ⟨d, hd⟩ : ∃ d, N[k]? = some d := ⟨_, List.getElem?_eq_getElem (by omega)⟩
    rw [lastIdx_eq N p k d hd]
    by_cases e : d.1 = p
    · rw [if_pos e]
      exact .inr ⟨k, d, by omega, hd, e, rfl⟩
    · rw [if_neg e]
      rcases lastIdx_cases N p k (by omega) with ⟨h1, h2⟩ | ⟨a, d', h1, h2, h3, h4⟩
      · refine .inl ⟨h1, fun i hi d' hd' => ?_⟩
        by_cases e' : i = k
        · subst e'; rw [hd] at hd'; cases hd'; exact e
        · exact h2 i (by omega) d' hd'
      · exact .inr ⟨a, d', by omega, h2, h3, h4⟩
/-- What is found under a page. -/
def look (N : List (Int × Int)) (p : Int) : Option Int := (N.find? (fun d => d.1 == p)).map Prod.snd
def ref1 (D : List (Int × Int)) (s : List (Int × Int) × List Int) (x : Ln) : List (Int × Int) × List Int :=
  if x.changes = true ∧ (lastOf D x.page D.length).isSome = true ∧ ¬ (lastOf D x.page D.length).getD 0 > x.lsn then
    (let N := if lastIdx s.1 x.page s.1.length < 0 then s.1 ++ [(x.page, 0)] else s.1
     let a := if lastIdx s.1 x.page s.1.length < 0 then s.1.length else (lastIdx s.1 x.page s.1.length).toNat
     if (N[a]?.getD (0, 0)).2 < x.lsn then (N.set a ((N[a]?.getD (0, 0)).1, x.lsn), s.2 ++ [x.lsn]) else (N, s.2))
  else s
def refN (D : List (Int × Int)) (s : List (Int × Int) × List Int) (L : List Ln) : List (Int × Int) × List Int := L.foldl (ref1 D) s
theorem look_app (N : List (Int × Int)) (q : Int × Int) (p : Int) : look (N ++ [q]) p = match look N p with | some v => some v | none => if q.1 = p then some q.2 else none := by
  unfold look
  rw [List.find?_append]
  cases h : N.find? (fun d => d.1 == p) with
  | some v => simp
  | none =>
    by_cases e : q.1 = p
    · simp [e]
    · simp [e, List.find?_cons]
theorem look_none (N : List (Int × Int)) (p : Int) (h : ∀ d ∈ N, d.1 ≠ p) : look N p = none := by
  unfold look
  rw [List.find?_eq_none.2 (fun d hd => by simp [h d hd])]
  rfl
/-- Each page once. -/
def Once (N : List (Int × Int)) : Prop := (N.map Prod.fst).Nodup
theorem look_cons (x : Int × Int) (N : List (Int × Int)) (p : Int) : look (x :: N) p = if x.1 = p then some x.2 else look N p := by
  unfold look
  rw [List.find?_cons]
  by_cases e : x.1 = p
  · have hb : (x.1 == p) = true := by simp [e]
    rw [if_pos e, hb]; rfl
  · have hb : (x.1 == p) = false := beq_eq_false_iff_ne.2 e
    rw [if_neg e, hb]
theorem look_at : ∀ (N : List (Int × Int)) (_ : Once N) (a : Nat) (d : Int × Int) (_ : N[a]? = some d), look N d.1 = some d.2
  | [], _, a, d, h => by simp at h
  | x :: N, ho, 0, d, h => by simp at h; subst h; rw [look_cons, if_pos rfl]
  | x :: N, ho, a + 1, d, h => by
    simp at h
    have ho' : x.1 ∉ N.map Prod.fst ∧ Once N := by unfold Once at ho ⊢; rw [List.map_cons] at ho; exact List.nodup_cons.1 ho
    have hne : x.1 ≠ d.1 := fun e => ho'.1 (by rw [e]; exact List.mem_map_of_mem (List.mem_of_getElem? h))
    rw [look_cons, if_neg hne]
    exact look_at N ho'.2 a d h
theorem look_set : ∀ (N : List (Int × Int)) (_ : Once N) (a : Nat) (d : Int × Int) (_ : N[a]? = some d) (v : Int) (p : Int), look (N.set a (d.1, v)) p = if p = d.1 then some v else look N p
  | [], _, a, d, h, _, _ => by simp at h
  | x :: N, ho, 0, d, h, v, p => by
    simp at h; subst h
    rw [List.set_cons_zero, look_cons, look_cons]
    by_cases e : p = x.1
    · rw [if_pos e, if_pos e.symm]
    · have e' : ¬ x.1 = p := fun h => e h.symm
      rw [if_neg e, if_neg e', if_neg e']
  | x :: N, ho, a + 1, d, h, v, p => by
    simp at h
    have ho' : x.1 ∉ N.map Prod.fst ∧ Once N := by unfold Once at ho ⊢; rw [List.map_cons] at ho; exact List.nodup_cons.1 ho
    have hne : x.1 ≠ d.1 := fun e => ho'.1 (by rw [e]; exact List.mem_map_of_mem (List.mem_of_getElem? h))
    have ih := look_set N ho'.2 a d h v p
    rw [List.set_cons_succ, look_cons, look_cons, ih]
    by_cases e : x.1 = p
    · rw [if_pos e, if_neg (fun h => hne (e.trans h)), if_pos e]
    · rw [if_neg e, if_neg e]
theorem set_keys (N : List (Int × Int)) (a : Nat) (d : Int × Int) (h : N[a]? = some d) (v : Int) : (N.set a (d.1, v)).map Prod.fst = N.map Prod.fst := by
  rw [List.map_set]
  obtain ⟨h1, h2⟩ := List.getElem?_eq_some_iff.1 h
  apply List.ext_getElem?
  intro i
  rw [List.getElem?_set]
  split
  · rename_i e
    subst e
    simp [h1, h2]
  · rfl
/-- How both know the pages. -/
structure Knows (A : Ask) (N : List (Int × Int)) (h : Int → Option Int) : Prop where
  once : Once N
  same : ∀ p, (look N p).getD 0 = (h p).getD (A.f p)
theorem again_ref (A : Ask) (D : List (Int × Int)) (f : Int → Option Int) (hf : ∀ p, f p = lastOf D p D.length) (N : List (Int × Int)) (h : Int → Option Int) (out : List Int) (hk : Knows A N h) (x : Ln) :
    (ref1 D (N, out) x).2 = (again1 A f (h, out) x).2 ∧ Knows A (ref1 D (N, out) x).1 (again1 A f (h, out) x).1 := by
  unfold ref1 again1
  rw [hf x.page]
  by_cases hc : x.changes = true ∧ (lastOf D x.page D.length).isSome = true ∧ ¬ (lastOf D x.page D.length).getD 0 > x.lsn
  · rw [if_pos hc, if_pos hc]
    simp only
    have hs := hk.same x.page
    obtain ⟨h', hh'⟩ : ∃ h', (if (h x.page).isSome = true then h else updI h x.page (A.f x.page)) = h' := ⟨_, rfl⟩
    have hsame' : ∀ p, (h' p).getD (A.f p) = (h p).getD (A.f p) := fun p => by
      rw [← hh']
      split
      · rfl
      · rename_i hn
        unfold updI
        by_cases e : p = x.page
        · rw [if_pos e]; subst e
          cases hp : h x.page with
          | none => rfl
          | some v => rw [hp] at hn; simp at hn
        · rw [if_neg e]
    rw [hh']
    rcases lastIdx_cases N x.page N.length (Nat.le_refl _) with ⟨h1, h2⟩ | ⟨a, d, h1, h2, h3, h4⟩
    · rw [h1]
      simp only [show ((-1 : Int) < 0) = True from by simp, if_true]
      have hno : ∀ d ∈ N, d.1 ≠ x.page := fun d hd => by
        obtain ⟨i, hi, he⟩ := List.getElem_of_mem hd
        exact h2 i hi d (by rw [← he]; exact List.getElem?_eq_getElem hi)
      rw [look_none N x.page hno] at hs
      have hN : Once (N ++ [(x.page, 0)]) := by
        unfold Once
        rw [List.map_append, List.nodup_append]
        refine ⟨hk.once, by simp, fun a ha b hb => ?_⟩
        simp at hb
        subst hb
        obtain ⟨d, hd, rfl⟩ := List.mem_map.1 ha
        exact hno d hd
      have hat : (N ++ [(x.page, (0 : Int))])[N.length]? = some (x.page, 0) := by simp
      rw [hat]
      simp only [Option.getD_some]
      have hlk : ∀ p, (look (N ++ [(x.page, 0)]) p).getD 0 = (look N p).getD 0 := fun p => by
        rw [look_app]
        cases look N p with
        | some v => rfl
        | none => by_cases e : x.page = p <;> simp [e]
      by_cases hlt : (0 : Int) < x.lsn
      · rw [if_pos hlt, if_neg (by rw [← hs]; simp; omega)]
        refine ⟨rfl, ?_, fun p => ?_⟩
        · unfold Once; rw [set_keys _ _ _ hat]; exact hN
        · rw [look_set _ hN _ _ hat]
          unfold updI
          simp only
          by_cases e : p = x.page
          · rw [if_pos e, if_pos e]; rfl
          · rw [if_neg e, if_neg e, hlk, hk.same, hsame']
      · rw [if_neg hlt, if_pos (by rw [← hs]; simp; omega)]
        exact ⟨rfl, hN, fun p => by rw [hlk, hk.same, hsame']⟩
    · rw [h4]
      have hn0 : ¬ ((a : Int) < 0) := by omega
      simp only [hn0, if_false, Int.toNat_natCast]
      rw [h2]
      simp only [Option.getD_some]
      have hv := look_at N hk.once a d h2
      rw [h3] at hv
      rw [hv] at hs
      simp only [Option.getD_some] at hs
      by_cases hlt : d.2 < x.lsn
      · rw [if_pos hlt, if_neg (by rw [← hs]; omega)]
        refine ⟨rfl, ?_, fun p => ?_⟩
        · unfold Once; rw [set_keys _ _ _ h2]; exact hk.once
        · rw [look_set _ hk.once _ _ h2]
          unfold updI
          simp only
          by_cases e : p = x.page
          · rw [if_pos (by rw [h3]; exact e), if_pos e]; rfl
          · rw [if_neg (by rw [h3]; exact e), if_neg e, hk.same, hsame']
      · rw [if_neg hlt, if_pos (by rw [← hs]; omega)]
        exact ⟨rfl, hk.once, fun p => by rw [hk.same, hsame']⟩
  · rw [if_neg hc, if_neg hc]
    exact ⟨rfl, hk⟩
theorem againN_ref (A : Ask) (D : List (Int × Int)) (f : Int → Option Int) (hf : ∀ p, f p = lastOf D p D.length) : ∀ (L : List Ln) (N : List (Int × Int)) (h : Int → Option Int) (out : List Int) (_ : Knows A N h), (refN D (N, out) L).2 = (againN A f (h, out) L).2
  | [], N, h, out, _ => rfl
  | x :: L, N, h, out, hk => by
    obtain ⟨h1, h2⟩ := again_ref A D f hf N h out hk x
    have e1 : refN D (N, out) (x :: L) = refN D ((ref1 D (N, out) x).1, (ref1 D (N, out) x).2) L := rfl
    have e2 : againN A f (h, out) (x :: L) = againN A f ((again1 A f (h, out) x).1, (again1 A f (h, out) x).2) L := rfl
    rw [e1, e2, h1]
    exact againN_ref A D f hf L _ _ _ h2
/-- Pages by rising number: what is soiled is what the list tells. -/
theorem soil_last (D : List (Int × Int)) (hr : ∀ (i j : Nat) (x y : Int × Int), D[i]? = some x → D[j]? = some y → i < j → x.1 < y.1) (p : Int) : ∀ k, k ≤ D.length → soil noMap (D.take k) p = lastOf D p k
  | 0, _ => rfl
  | k + 1, h => by
    obtain ⟨d, hd⟩ : ∃ d, D[k]? = some d := ⟨_, List.getElem?_eq_getElem (by omega)⟩
    have ih := fun q => soil_last D hr q k (by omega)
    have hno : soil noMap (D.take k) d.1 = none := by
      rw [ih d.1]
      have : ∀ j, j ≤ k → lastOf D d.1 j = none := by
        intro j
        induction j with
        | zero => intro _; rfl
        | succ j ihj =>
          intro hj
          obtain ⟨e, he⟩ : ∃ e, D[j]? = some e := ⟨_, List.getElem?_eq_getElem (by omega)⟩
          rw [lastOf_eq D _ j e he, if_neg (by have := hr j k e d he hd (by omega); omega), ihj (by omega)]
      exact this k (Nat.le_refl _)
    obtain ⟨hl, hx⟩ := List.getElem?_eq_some_iff.1 hd
    rw [List.take_succ_eq_append_getElem hl, hx, soil_snoc, lastOf_eq D p k d hd]
    unfold soil1
    rw [if_pos (by rw [hno]; simp)]
    unfold updI
    by_cases e : p = d.1
    · rw [if_pos e, if_pos e.symm]
    · rw [if_neg e, if_neg (fun h => e h.symm), ih p]
end Go.Proofs.Ytpjppolbkdnkaaa
