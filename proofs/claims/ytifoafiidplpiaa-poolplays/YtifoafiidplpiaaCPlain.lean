/- PoolCleans as data: which frames hold what. -/
import Derived.Test.YtifoafiidplpiaaPAwake
namespace Go.Proofs.Ytifoafiidplpiaa
open Go.RowKit
set_option linter.unusedVariables false
set_option linter.unusedSimpArgs false

theorem len_le_of_nodup : ∀ (l l' : List Int), l.Nodup → (∀ x ∈ l, x ∈ l') → l.length ≤ l'.length
  | [], l', _, _ => by simp
  | a :: r, l', h, hs => by
    rw [List.nodup_cons] at h
    have h1 := len_le_of_nodup r (l'.erase a) h.2 (fun x hx => (List.mem_erase_of_ne (fun e : x = a => h.1 (by rw [← e]; exact hx))).2 (hs x (by simp [hx])))
    have h2 := List.length_erase_of_mem (hs a (by simp))
    have h3 := List.length_pos_of_mem (hs a (by simp))
    rw [List.length_cons]
    omega
structure CInv {σ : Type} (S : Pl σ) (F L : List Int) : Prop where
  len : S.fs.length = 6
  lf : F.length = 6
  ll : L.length = 6
  un : ∀ f ∈ S.fs, f.held = false → f.dirty = false
  he : ∀ f ∈ S.fs, f.held = true → ∃ q : Nat, q < 6 ∧ f.page = (q : Int) ∧ 0 < F.getD q 0 ∧ f.dirty = true ∧ f.rlsn = F.getD q 0 ∧ f.bs = pg 9 (L.getD q 0)
  inj : ∀ (i j : Nat) (f g : Fm), S.fs[i]? = some f → S.fs[j]? = some g → f.held = true → g.held = true → f.page = g.page → i = j
  all : ∀ q : Nat, q < 6 → 0 < F.getD q 0 → ∃ f ∈ S.fs, f.held = true ∧ f.page = (q : Int)
  pos : ∀ q : Nat, 0 ≤ F.getD q 0
theorem CInv.sound {σ : Type} {S : Pl σ} {F L : List Int} (h : CInv S F L) : S.sound 6 := fun f hf hd => by
  cases hh : f.held with
  | false => rw [h.un f hf hh] at hd; cases hd
  | true =>
    obtain ⟨q, h1, h2, h3, h4, h5, h6⟩ := h.he f hf hh
    exact ⟨by omega, by omega, by rw [h6, length_pg]⟩
theorem CInv.made {σ : Type} (dk : List (List UInt8)) (s : σ) : CInv (Pl.made 6 dk s) [0, 0, 0, 0, 0, 0] [0, 0, 0, 0, 0, 0] := by
  refine ⟨by simp [Pl.made], rfl, rfl, fun f hf _ => ?_, fun f hf hh => ?_, fun i j f g hi hj hh => ?_, fun q hq hp => ?_, fun q => ?_⟩
  · obtain ⟨_, rfl⟩ := List.mem_replicate.1 hf; rfl
  · obtain ⟨_, rfl⟩ := List.mem_replicate.1 hf; cases hh
  · obtain ⟨_, rfl⟩ := List.mem_replicate.1 (List.mem_of_getElem? hi); cases hh
  · match q with
    | 0 | 1 | 2 | 3 | 4 | 5 => simp at hp
    | q + 6 => omega
  · match q with
    | 0 | 1 | 2 | 3 | 4 | 5 => simp
    | q + 6 => simp
theorem getD_set_self (F : List Int) (q : Nat) (x : Int) (h : q < F.length) : (F.set q x).getD q 0 = x := by simp [List.getD_eq_getElem?_getD, h]
theorem getD_set_ne (F : List Int) (q k : Nat) (x : Int) (h : q ≠ k) : (F.set q x).getD k 0 = F.getD k 0 := by simp [List.getD_eq_getElem?_getD, List.getElem?_set_ne h]
theorem CInv.find_none {σ : Type} {S : Pl σ} {F L : List Int} (h : CInv S F L) (m : Nat) (hm : m < 6) (h0 : F.getD m 0 = 0) : S.find (m : Int) = none := by
  refine findIdx_no _ _ (fun j y hy => ?_)
  cases hh : y.held with
  | false => simp [Fm.is, hh]
  | true =>
    obtain ⟨q, h1, h2, h3, _⟩ := h.he y (List.mem_of_getElem? hy) hh
    simp only [Fm.is, hh, Bool.true_and]
    refine beq_eq_false_iff_ne.2 (fun e => ?_)
    have : q = m := by omega
    subst this
    omega
theorem CInv.find_some {σ : Type} {S : Pl σ} {F L : List Int} (h : CInv S F L) (m : Nat) (hm : m < 6) (h0 : 0 < F.getD m 0) : ∃ i f, S.find (m : Int) = some i ∧ S.fs[i]? = some f ∧ S.fs.getD i Fm.nil = f ∧ f.held = true ∧ f.page = (m : Int) ∧ f.dirty = true ∧ f.rlsn = F.getD m 0 ∧ f.bs = pg 9 (L.getD m 0) ∧ i < 6 := by
  obtain ⟨f, hf, hh, hp⟩ := h.all m hm h0
  cases hfi : S.find (m : Int) with
  | none =>
    have := List.findIdx?_eq_none_iff.1 hfi f hf
    simp [Fm.is, hh, hp] at this
  | some i =>
    obtain ⟨g, h1, h2, h3, h4, h5, h6⟩ := Ytifoafiidplpiaa.find_some hfi
    obtain ⟨q, a1, a2, a3, a4, a5, a6⟩ := h.he g h5 h3
    have : q = m := by omega
    subst this
    exact ⟨i, g, rfl, h1, h2, h3, h4, a4, a5, a6, by rw [← h.len]; exact h6⟩
theorem pl_set_none {σ : Type} {S : Pl σ} (i : Nat) (f : Fm) : ∀ g ∈ S.fs.set i f, g ∈ S.fs ∨ g = f := fun g hg => List.mem_or_eq_of_mem_set hg
/-- A page is driven out. -/
theorem CInv.evict {σ : Type} {S : Pl σ} {F L : List Int} (h : CInv S F L) (m : Nat) (hm : m < 6) (h0 : 0 < F.getD m 0) (i : Nat) (f : Fm) (hf : S.fs[i]? = some f) (hh : f.held = true) (hp : f.page = (m : Int)) (hd : Nat) (wr : Nat) (dk : List (List UInt8)) (fo : σ) :
    CInv ⟨S.fs.set i Fm.nil, hd, wr, dk, fo⟩ (F.set m 0) L := by
  have hi : i < S.fs.length := (List.getElem?_eq_some_iff.1 hf).1
  have key : ∀ (j : Nat) (g : Fm), (S.fs.set i Fm.nil)[j]? = some g → g.held = true → j ≠ i ∧ S.fs[j]? = some g := fun j g hj hg => by
    by_cases e : i = j
    · subst e
      rw [List.getElem?_set_self hi] at hj
      cases hj
      cases hg
    · rw [List.getElem?_set_ne e] at hj
      exact ⟨Ne.symm e, hj⟩
  refine ⟨by simp [h.len], by simp [h.lf], h.ll, fun g hg hu => ?_, fun g hg hh' => ?_, fun a b x y ha hb hx hy e => ?_, fun q hq hp' => ?_, fun q => ?_⟩
  · rcases pl_set_none i _ g hg with h1 | h1
    · exact h.un g h1 hu
    · rw [h1]; rfl
  · obtain ⟨j, hj⟩ := List.mem_iff_getElem?.1 hg
    obtain ⟨e1, e2⟩ := key j g hj hh'
    obtain ⟨q, a1, a2, a3, a4, a5, a6⟩ := h.he g (List.mem_of_getElem? e2) hh'
    have hqm : m ≠ q := fun e => e1 (h.inj j i g f e2 hf hh' hh (by omega))
    exact ⟨q, a1, a2, by rw [getD_set_ne _ _ _ _ hqm]; exact a3, a4, by rw [getD_set_ne _ _ _ _ hqm]; exact a5, a6⟩
  · exact h.inj a b x y (key a x ha hx).2 (key b y hb hy).2 hx hy e
  · have hqm : m ≠ q := fun e => by subst e; rw [getD_set_self _ _ _ (by rw [h.lf]; exact hm)] at hp'; omega
    rw [getD_set_ne _ _ _ _ hqm] at hp'
    obtain ⟨g, g1, g2, g3⟩ := h.all q hq hp'
    obtain ⟨j, hj⟩ := List.mem_iff_getElem?.1 g1
    have hji : i ≠ j := fun e => by subst e; rw [hf] at hj; cases hj; omega
    exact ⟨g, List.mem_of_getElem? (by rw [List.getElem?_set_ne hji]; exact hj : (S.fs.set i Fm.nil)[j]? = some g), g2, g3⟩
  · by_cases e : m = q
    · subst e; rw [getD_set_self _ _ _ (by rw [h.lf]; exact hm)]; omega
    · rw [getD_set_ne _ _ _ _ e]; exact h.pos q
theorem CInv.idle {σ : Type} {S : Pl σ} {F L : List Int} (h : CInv S F L) (m : Nat) (hm : m < 6) (h0 : F.getD m 0 = 0) : F.set m 0 = F := by
  apply List.ext_getElem?
  intro k
  by_cases e : m = k
  · subst e
    rw [List.getElem?_set_self (by rw [h.lf]; exact hm)]
    have hl : m < F.length := by rw [h.lf]; exact hm
    rw [List.getD_eq_getElem?_getD, List.getElem?_eq_getElem hl] at h0
    rw [List.getElem?_eq_getElem hl]
    simpa using h0.symm
  · rw [List.getElem?_set_ne e]
/-- A page is put: into frame i, which holds it or is empty. -/
theorem CInv.put {σ : Type} {S : Pl σ} {F L : List Int} (h : CInv S F L) (m : Nat) (hm : m < 6) (K : Int) (hK : 0 < K) (i : Nat) (f : Fm) (hf : S.fs[i]? = some f) (hfm : (f.held = true ∧ f.page = (m : Int)) ∨ (f.held = false ∧ F.getD m 0 = 0)) (f' : Fm) (F' : List Int)
    (hF' : F' = if F.getD m 0 = 0 then F.set m K else F) (k1 : f'.held = true) (k2 : f'.page = (m : Int)) (k3 : f'.dirty = true) (k4 : f'.rlsn = F'.getD m 0) (k5 : f'.bs = pg 9 K) (hd : Nat) (wr : Nat) (dk : List (List UInt8)) (fo : σ) :
    CInv ⟨S.fs.set i f', hd, wr, dk, fo⟩ F' (L.set m K) := by
  have hi : i < S.fs.length := (List.getElem?_eq_some_iff.1 hf).1
  have hlf : F'.length = 6 := by rw [hF']; split <;> simp [h.lf]
  have hne : ∀ q, m ≠ q → F'.getD q 0 = F.getD q 0 := fun q e => by
    rw [hF']; split
    · rw [getD_set_ne _ _ _ _ e]
    · rfl
  have hmm : 0 < F'.getD m 0 := by
    rw [hF']; split
    · rw [getD_set_self _ _ _ (by rw [h.lf]; exact hm)]; exact hK
    · have := h.pos m; omega
  have hLm : (L.set m K).getD m 0 = K := getD_set_self _ _ _ (by rw [h.ll]; exact hm)
  have key : ∀ (j : Nat) (g : Fm), (S.fs.set i f')[j]? = some g → (j = i ∧ g = f') ∨ (j ≠ i ∧ S.fs[j]? = some g) := fun j g hj => by
    by_cases e : i = j
    · subst e
      rw [List.getElem?_set_self hi] at hj
      cases hj
      exact .inl ⟨rfl, rfl⟩
    · rw [List.getElem?_set_ne e] at hj
      exact .inr ⟨Ne.symm e, hj⟩
  have other : ∀ (j : Nat) (g : Fm), j ≠ i → S.fs[j]? = some g → g.held = true → ∃ q : Nat, q < 6 ∧ g.page = (q : Int) ∧ m ≠ q ∧ 0 < F.getD q 0 ∧ g.dirty = true ∧ g.rlsn = F.getD q 0 ∧ g.bs = pg 9 (L.getD q 0) := fun j g hj hg hh => by
    obtain ⟨q, a1, a2, a3, a4, a5, a6⟩ := h.he g (List.mem_of_getElem? hg) hh
    refine ⟨q, a1, a2, fun e => ?_, a3, a4, a5, a6⟩
    rcases hfm with ⟨b1, b2⟩ | ⟨b1, b2⟩
    · exact hj (h.inj j i g f hg hf hh b1 (by omega))
    · subst e; omega
  refine ⟨by simp [h.len], hlf, by simp [h.ll], fun g hg hu => ?_, fun g hg hh' => ?_, fun a b x y ha hb hx hy e => ?_, fun q hq hp' => ?_, fun q => ?_⟩
  · rcases pl_set_none i _ g hg with h1 | h1
    · exact h.un g h1 hu
    · rw [h1, k1] at hu; cases hu
  · obtain ⟨j, hj⟩ := List.mem_iff_getElem?.1 hg
    rcases key j g hj with ⟨_, rfl⟩ | ⟨e1, e2⟩
    · exact ⟨m, hm, k2, hmm, k3, k4, by rw [k5, hLm]⟩
    · obtain ⟨q, a1, a2, a7, a3, a4, a5, a6⟩ := other j g e1 e2 hh'
      exact ⟨q, a1, a2, by rw [hne q a7]; exact a3, a4, by rw [hne q a7]; exact a5, by rw [getD_set_ne _ _ _ _ a7]; exact a6⟩
  · rcases key a x ha with ⟨p1, p2⟩ | ⟨p1, p2⟩ <;> rcases key b y hb with ⟨q1, q2⟩ | ⟨q1, q2⟩
    · omega
    · obtain ⟨q, a1, a2, a7, _⟩ := other b y q1 q2 hy
      rw [p2, k2] at e; omega
    · obtain ⟨q, a1, a2, a7, _⟩ := other a x p1 p2 hx
      rw [q2, k2] at e; omega
    · exact h.inj a b x y p2 q2 hx hy e
  · by_cases e : m = q
    · subst e
      exact ⟨f', List.mem_of_getElem? (List.getElem?_set_self hi : (S.fs.set i f')[i]? = some f'), k1, k2⟩
    · rw [hne q e] at hp'
      obtain ⟨g, g1, g2, g3⟩ := h.all q hq hp'
      obtain ⟨j, hj⟩ := List.mem_iff_getElem?.1 g1
      have hji : i ≠ j := fun e' => by
        subst e'; rw [hf] at hj; cases hj
        rcases hfm with ⟨b1, b2⟩ | ⟨b1, b2⟩
        · omega
        · rw [b1] at g2; cases g2
      exact ⟨g, List.mem_of_getElem? (by rw [List.getElem?_set_ne hji]; exact hj : (S.fs.set i f')[j]? = some g), g2, g3⟩
  · by_cases e : m = q
    · subst e; omega
    · rw [hne q e]; exact h.pos q
/-- While a page is not in memory a frame is empty. -/
theorem CInv.empty {σ : Type} {S : Pl σ} {F L : List Int} (h : CInv S F L) (m : Nat) (hm : m < 6) (h0 : F.getD m 0 = 0) : ∃ i f, S.empty = some i ∧ S.fs[i]? = some f ∧ f.held = false ∧ f.dirty = false := by
  cases he : S.empty with
  | some i =>
    obtain ⟨hlt, hp, _⟩ := List.findIdx?_eq_some_iff_getElem.1 he
    have hu : S.fs[i].held = false := by simpa using hp
    exact ⟨i, S.fs[i], rfl, List.getElem?_eq_getElem hlt, hu, h.un _ (List.getElem_mem hlt) hu⟩
  | none =>
    exfalso
    have hall : ∀ f ∈ S.fs, f.held = true := fun f hf => by simpa using List.findIdx?_eq_none_iff.1 he f hf
    -- the pages of six frames are six of 0 .. 5 without m
    have hnd : (S.fs.map (·.page)).Nodup := by
      rw [List.nodup_iff_pairwise_ne, List.pairwise_map, List.pairwise_iff_getElem]
      intro i j hi hj hij e
      have := h.inj i j _ _ (List.getElem?_eq_getElem hi) (List.getElem?_eq_getElem hj) (hall _ (List.getElem_mem hi)) (hall _ (List.getElem_mem hj)) e
      omega
    have hsub : ∀ x ∈ S.fs.map (·.page), x ∈ (([0, 1, 2, 3, 4, 5] : List Int).erase (m : Int)) := fun x hx => by
      obtain ⟨f, hf, rfl⟩ := List.mem_map.1 hx
      obtain ⟨q, a1, a2, a3, _⟩ := h.he f hf (hall f hf)
      have hqm : q ≠ m := fun e => by subst e; omega
      show f.page ∈ _
      rw [a2]
      refine (List.mem_erase_of_ne (by omega)).2 ?_
      have hc : q = 0 ∨ q = 1 ∨ q = 2 ∨ q = 3 ∨ q = 4 ∨ q = 5 := by omega
      rcases hc with rfl | rfl | rfl | rfl | rfl | rfl <;> decide
    have hle := len_le_of_nodup _ _ hnd hsub
    rw [List.length_map, h.len] at hle
    have hl5 : (([0, 1, 2, 3, 4, 5] : List Int).erase (m : Int)).length = 5 := by
      rw [List.length_erase_of_mem]
      · rfl
      · have hc : m = 0 ∨ m = 1 ∨ m = 2 ∨ m = 3 ∨ m = 4 ∨ m = 5 := by omega
        rcases hc with rfl | rfl | rfl | rfl | rfl | rfl <;> decide
    omega

/-! ### The list of dirty pages -/
def expE (F : List Int) (k : Nat) : List (Int × Int) := ((List.range k).filter (fun q => F.getD q 0 != 0)).map fun q : Nat => ((q : Int), F.getD q 0)
theorem expE_succ (F : List Int) (k : Nat) : expE F (k + 1) = if F.getD k 0 = 0 then expE F k else expE F k ++ [((k : Int), F.getD k 0)] := by
  unfold expE
  rw [List.range_succ, List.filter_append, List.map_append]
  by_cases h : F.getD k 0 = 0
  · rw [if_pos h]
    have hb : (F.getD k 0 != 0) = false := by rw [h]; rfl
    rw [List.filter_cons, if_neg (by rw [hb]; simp)]
    simp
  · rw [if_neg h]
    congr 1
    have hb : (F.getD k 0 != 0) = true := by simpa using h
    rw [List.filter_cons, if_pos hb]
    rfl
theorem expE_prefix (F : List Int) (k : Nat) : ∀ j, expE F k <+: expE F (k + j)
  | 0 => List.prefix_refl _
  | j + 1 => by
    rw [← Nat.add_assoc, expE_succ]
    split
    · exact expE_prefix F k j
    · exact (expE_prefix F k j).trans (List.prefix_append _ _)
theorem expE_at (F : List Int) (q : Nat) (hq : q < 6) (h0 : F.getD q 0 ≠ 0) : (expE F 6)[(expE F q).length]? = some ((q : Int), F.getD q 0) := by
  have h1 := expE_prefix F (q + 1) (6 - (q + 1))
  rw [show q + 1 + (6 - (q + 1)) = 6 by omega, expE_succ, if_neg h0] at h1
  obtain ⟨t, ht⟩ := h1
  rw [← ht]
  simp
theorem mem_expE (F : List Int) (k : Nat) (x : Int × Int) : x ∈ expE F k ↔ ∃ q : Nat, q < k ∧ F.getD q 0 ≠ 0 ∧ x = ((q : Int), F.getD q 0) := by
  unfold expE
  simp only [List.mem_map, List.mem_filter, List.mem_range]
  constructor
  · rintro ⟨q, ⟨h1, h2⟩, rfl⟩
    exact ⟨q, h1, by simpa using h2, rfl⟩
  · rintro ⟨q, h1, h2, rfl⟩
    exact ⟨q, ⟨h1, by simpa using h2⟩, rfl⟩
theorem sorted_expE (F : List Int) (k : Nat) : (expE F k).Pairwise (fun x y => x.1 < y.1) := by
  unfold expE
  rw [List.pairwise_map, List.pairwise_filter]
  have := List.pairwise_lt_range (n := k)
  exact this.imp (fun h _ _ => by simpa using h)
theorem CInv.dirt {σ : Type} {S : Pl σ} {F L : List Int} (h : CInv S F L) (d : List (Int × Int)) (hp : d.Perm (dirtL S.fs)) (hs : d.Pairwise (fun x y => x.1 ≤ y.1)) : d = expE F 6 := by
  have mem : ∀ x, x ∈ dirtL S.fs ↔ x ∈ expE F 6 := fun x => by
    rw [mem_expE]
    unfold dirtL
    simp only [List.mem_map, List.mem_filter]
    constructor
    · rintro ⟨f, ⟨hf, hd⟩, rfl⟩
      cases hh : f.held with
      | false => rw [h.un f hf hh] at hd; cases hd
      | true =>
        obtain ⟨q, a1, a2, a3, a4, a5, a6⟩ := h.he f hf hh
        exact ⟨q, a1, by omega, by rw [a2, a5]⟩
    · rintro ⟨q, h1, h2, rfl⟩
      obtain ⟨f, hf, hh, hpg⟩ := h.all q h1 (by have := h.pos q; omega)
      obtain ⟨q', a1, a2, a3, a4, a5, a6⟩ := h.he f hf hh
      have : q' = q := by omega
      subst this
      exact ⟨f, ⟨hf, a4⟩, by rw [a2, a5]⟩
  have nd1 : (dirtL S.fs).Nodup := by
    unfold dirtL
    rw [List.nodup_iff_pairwise_ne, List.pairwise_map, List.pairwise_filter, List.pairwise_iff_getElem]
    intro i j hi hj hij d1 d2 e
    have held : ∀ f ∈ S.fs, f.dirty = true → f.held = true := fun f hf hd => by
      cases hh : f.held with
      | false => rw [h.un f hf hh] at hd; cases hd
      | true => rfl
    have := h.inj i j _ _ (List.getElem?_eq_getElem hi) (List.getElem?_eq_getElem hj) (held _ (List.getElem_mem hi) d1) (held _ (List.getElem_mem hj) d2) (by simpa using congrArg Prod.fst e)
    omega
  have nd2 : (expE F 6).Nodup := by
    rw [List.nodup_iff_pairwise_ne]
    exact (sorted_expE F 6).imp (fun h e => by rw [e] at h; omega)
  have pm : (dirtL S.fs).Perm (expE F 6) := (List.perm_ext_iff_of_nodup nd1 nd2).2 mem
  refine List.Perm.eq_of_pairwise (le := fun x y => x.1 ≤ y.1) (fun a b ha hb h1 h2 => ?_) hs ((sorted_expE F 6).imp (fun h => by omega)) (hp.trans pm)
  have ha' := (mem a).1 (hp.mem_iff.1 ha)
  obtain ⟨q, _, _, rfl⟩ := (mem_expE F 6 a).1 ha'
  obtain ⟨q', _, _, rfl⟩ := (mem_expE F 6 b).1 hb
  have : q = q' := by simp only at h1 h2; omega
  rw [this]
theorem expE_le (F : List Int) : ∀ k, (expE F k).length ≤ k
  | 0 => by simp [expE]
  | k + 1 => by
    have := expE_le F k
    rw [expE_succ]
    split
    · omega
    · rw [List.length_append]; simp; omega

/-! ### What the pool's calls come to -/
section
variable {Φ : Force} {S T : Pl Φ.σ} {n i : Nat} {m : Int} {f : Fm}
theorem evict_none (h : S.find m = none) : S.evict m = (0, S) := by unfold Pl.evict; rw [h]
theorem evict_some (h : S.find m = some i) (hf : S.fs.getD i Fm.nil = f) (hw : S.wrote f = (0, T)) : S.evict m = (0, { T with fs := S.fs.set i Fm.nil }) := by
  unfold Pl.evict
  rw [h]
  simp only [hf, hw]
  rfl
theorem put_some (bs : List UInt8) (lsn : Int) (hin : ¬ (m < 0 ∨ (n : Int) ≤ m ∨ lsn < 1)) (h : S.find m = some i) (hf : S.fs.getD i Fm.nil = f) : S.put n m bs lsn = (0, { S with fs := S.fs.set i (f.changed bs lsn) }) := by
  unfold Pl.put
  rw [if_neg hin, h]
  simp only [hf]
theorem put_none (bs : List UInt8) (lsn : Int) (hin : ¬ (m < 0 ∨ (n : Int) ≤ m ∨ lsn < 1)) (h : S.find m = none) (hf : S.free = (0, i, T)) : S.put n m bs lsn = (0, { T with fs := T.fs.set i ((Fm.fresh m).changed bs lsn) }) := by
  unfold Pl.put
  rw [if_neg hin, h]
  simp only [hf]
  rfl
theorem free_empty (h : S.empty = some i) (hf : S.fs[i]? = some f) (hd : f.dirty = false) : S.free = (0, i, S) := by
  have ep : S.pick = (i, S) := by unfold Pl.pick; rw [h]
  have ew : S.wrote f = (0, S) := by unfold Pl.wrote; rw [if_neg (by rw [hd]; simp)]
  unfold Pl.free
  rw [ep]
  simp only [hf, ew]
theorem wrote_dirty (s : Φ.σ) (hd : f.dirty = true) (hs : Φ.step S.fo f.lsn = (0, s)) : S.wrote f = (0, { S with fo := s, disk := S.disk.set f.page.toNat f.bs, wr := S.wr + 1 }) := by
  unfold Pl.wrote
  rw [if_pos hd, hs, if_neg (by simp)]
end
end Go.Proofs.Ytifoafiidplpiaa
