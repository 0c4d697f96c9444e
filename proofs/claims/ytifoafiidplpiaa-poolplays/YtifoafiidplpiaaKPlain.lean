/- PoolKeeps as data: what lies in frames and on the device. -/
import Derived.Test.YtifoafiidplpiaaCPlain
namespace Go.Proofs.Ytifoafiidplpiaa
open Go.RowKit
set_option linter.unusedVariables false
set_option linter.unusedSimpArgs false

/-- What a page is behind its last put; 0: none. -/
def cont (l : Int) : List UInt8 := if l = 0 then zerosN 512 else pg 7 l
theorem length_cont (l : Int) : (cont l).length = 512 := by
  unfold cont
  split
  · exact length_zerosN _
  · exact length_pg _ _
theorem cont_pos {l : Int} (h : l ≠ 0) : cont l = pg 7 l := if_neg h
theorem byteOf_toNat (x : Int) : ((byteOf x).toNat : Int) = x % 256 := by
  have h0 : 0 ≤ x % 256 := Int.emod_nonneg _ (by omega)
  have h1 : x % 256 < 256 := Int.emod_lt_of_pos _ (by omega)
  unfold byteOf
  rw [UInt8.toNat_ofNat', Nat.mod_eq_of_lt (by omega)]
  omega
theorem byteOf_ne {a b : Int} (ha : 0 ≤ a) (ha' : a < 256) (hb : 0 ≤ b) (hb' : b < 256) (h : a ≠ b) : byteOf a ≠ byteOf b := fun e => by
  have e2 := congrArg UInt8.toNat e
  have k1 := byteOf_toNat a
  have k2 := byteOf_toNat b
  omega
theorem pg_head (l : Int) : (pg 7 l)[0]? = some (byteOf l) := by
  rw [List.getElem?_eq_getElem (by rw [length_pg]; omega), pg_get 7 l 0 (by omega)]
  simp
theorem cont_head (l : Int) : (cont l)[0]? = some (byteOf l) := by
  unfold cont
  split
  · rename_i h
    subst h
    decide
  · exact pg_head l
theorem cont_ne {a b : Int} (ha : 0 ≤ a) (hab : a < b) (hb' : b < 256) : cont a ≠ pg 7 b := fun e => by
  have h1 := cont_head a
  rw [e, pg_head] at h1
  exact byteOf_ne ha (by omega) (by omega) hb' (by omega) (Option.some.inj h1).symm

structure KInv (S : Pl Int) (I : List Int) (K : Int) : Prop where
  dl : S.disk.length = 10
  li : I.length = 10
  ib : ∀ q, 0 ≤ I.getD q 0 ∧ I.getD q 0 ≤ K
  k0 : 0 ≤ S.fo ∧ S.fo ≤ K
  un : ∀ f ∈ S.fs, f.held = false → f.dirty = false
  he : ∀ f ∈ S.fs, f.held = true → ∃ q : Nat, q < 10 ∧ f.page = (q : Int) ∧ f.bs = cont (I.getD q 0) ∧ (f.dirty = true → f.lsn = I.getD q 0 ∧ 1 ≤ f.lsn) ∧ (f.dirty = false → S.disk.getD q [] = f.bs)
  inj : ∀ (i j : Nat) (f g : Fm), S.fs[i]? = some f → S.fs[j]? = some g → f.held = true → g.held = true → f.page = g.page → i = j
  out : ∀ q : Nat, q < 10 → (∀ (j : Nat) (g : Fm), S.fs[j]? = some g → g.held = true → g.page ≠ (q : Int)) → S.disk.getD q [] = cont (I.getD q 0)
  dk : ∀ q : Nat, q < 10 → ∃ l, 0 ≤ l ∧ l ≤ S.fo ∧ S.disk.getD q [] = cont l
def Spare (S : Pl Int) (f : Fm) : Prop := f.held = false ∨ ∃ q : Nat, q < 10 ∧ f.page = (q : Int) ∧ S.disk.getD q [] = f.bs
def Nobody (S : Pl Int) (m : Int) : Prop := ∀ (j : Nat) (g : Fm), S.fs[j]? = some g → g.held = true → g.page ≠ m
theorem KInv.sound {S : Pl Int} {I : List Int} {K : Int} (h : KInv S I K) : S.sound 10 := fun f hf hd => by
  cases hh : f.held with
  | false => rw [h.un f hf hh] at hd; cases hd
  | true =>
    obtain ⟨q, h1, h2, h3, _⟩ := h.he f hf hh
    exact ⟨by omega, by omega, by rw [h3]; exact length_cont _⟩
theorem KInv.full {S : Pl Int} {I : List Int} {K : Int} (h : KInv S I K) : S.full := fun f hf hh => by
  obtain ⟨q, h1, h2, h3, _⟩ := h.he f hf hh
  rw [h3]; exact length_cont _
theorem KInv.find_none {S : Pl Int} {m : Int} (h : S.find m = none) : Nobody S m := fun j g hj hg e => by
  have := List.findIdx?_eq_none_iff.1 h g (List.mem_of_getElem? hj)
  simp [Fm.is, hg, e] at this
theorem find_nobody {S : Pl Int} {m : Int} (h : Nobody S m) : S.find m = none := findIdx_no _ _ (fun j y hy => by
  cases hh : y.held with
  | false => simp [Fm.is, hh]
  | true =>
    simp only [Fm.is, hh, Bool.true_and]
    exact beq_eq_false_iff_ne.2 (h j y hy hh))
theorem getEl_set {α : Type} {l : List α} {i j : Nat} {a b g : α} (hi : l[i]? = some b) (h : (l.set i a)[j]? = some g) : (j = i ∧ g = a) ∨ (j ≠ i ∧ l[j]? = some g) := by
  have hlt := (List.getElem?_eq_some_iff.1 hi).1
  by_cases e : i = j
  · subst e
    rw [List.getElem?_set_self hlt] at h
    cases h
    exact .inl ⟨rfl, rfl⟩
  · rw [List.getElem?_set_ne e] at h
    exact .inr ⟨Ne.symm e, h⟩
theorem KInv.lift {S : Pl Int} {I : List Int} {K K' : Int} (h : KInv S I K) (hK : K ≤ K') : KInv S I K' :=
  { h with ib := fun q => ⟨(h.ib q).1, by have := (h.ib q).2; omega⟩, k0 := ⟨h.k0.1, by have := h.k0.2; omega⟩ }
/-- A frame gets page m. -/
theorem KInv.set {S : Pl Int} {I : List Int} {K : Int} (h : KInv S I K) (i : Nat) (f : Fm) (hf : S.fs[i]? = some f) (m : Nat) (hm : m < 10) (hsp : Spare S f ∨ (f.held = true ∧ f.page = (m : Int)))
    (hoth : ∀ (j : Nat) (g : Fm), j ≠ i → S.fs[j]? = some g → g.held = true → g.page ≠ (m : Int)) (f' : Fm) (I' : List Int) (K' : Int) (hd wr : Nat)
    (k1 : f'.held = true) (k2 : f'.page = (m : Int)) (k3 : f'.bs = cont (I'.getD m 0)) (k4 : f'.dirty = true → f'.lsn = I'.getD m 0 ∧ 1 ≤ f'.lsn) (k5 : f'.dirty = false → S.disk.getD m [] = f'.bs)
    (hI : ∀ q, q ≠ m → I'.getD q 0 = I.getD q 0) (hl : I'.length = 10) (hb : 0 ≤ I'.getD m 0 ∧ I'.getD m 0 ≤ K') (hK : K ≤ K') : KInv ⟨S.fs.set i f', hd, wr, S.disk, S.fo⟩ I' K' := by
  have hi : i < S.fs.length := (List.getElem?_eq_some_iff.1 hf).1
  refine ⟨h.dl, hl, fun q => ?_, ⟨h.k0.1, by have := h.k0.2; simp only; omega⟩, fun g hg hu => ?_, fun g hg hh => ?_, fun a b x y ha hb hx hy e => ?_, fun q hq hno => ?_, h.dk⟩
  · by_cases e : q = m
    · subst e; exact hb
    · rw [hI q e]; have := h.ib q; omega
  · rcases pl_set_none i _ g hg with h1 | h1
    · exact h.un g h1 hu
    · rw [h1, k1] at hu; cases hu
  · obtain ⟨j, hj⟩ := List.mem_iff_getElem?.1 hg
    rcases getEl_set hf hj with ⟨_, rfl⟩ | ⟨e1, e2⟩
    · exact ⟨m, hm, k2, k3, k4, k5⟩
    · obtain ⟨q, a1, a2, a3, a4, a5⟩ := h.he g (List.mem_of_getElem? e2) hh
      have hqm : q ≠ m := fun e => hoth j g e1 e2 hh (by omega)
      exact ⟨q, a1, a2, by rw [hI q hqm]; exact a3, by rw [hI q hqm]; exact a4, a5⟩
  · rcases getEl_set hf ha with ⟨p1, p2⟩ | ⟨p1, p2⟩ <;> rcases getEl_set hf hb with ⟨q1, q2⟩ | ⟨q1, q2⟩
    · omega
    · exact absurd (by rw [← e, p2, k2]) (hoth b y q1 q2 hy)
    · exact absurd (by rw [e, q2, k2]) (hoth a x p1 p2 hx)
    · exact h.inj a b x y p2 q2 hx hy e
  · have hqm : q ≠ m := fun e => hno i f' (List.getElem?_set_self hi) k1 (by rw [k2, e])
    rw [hI q hqm]
    show S.disk.getD q [] = _
    by_cases hfq : f.held = true ∧ f.page = (q : Int)
    · rcases hsp with (h1 | ⟨q', b1, b2, b3⟩) | h1
      · rw [h1] at hfq; cases hfq.1
      · obtain ⟨q2, a1, a2, a3, _⟩ := h.he f (List.mem_of_getElem? hf) hfq.1
        have e1 : q' = q := by omega
        have e2 : q2 = q := by omega
        rw [e1] at b3
        rw [e2] at a3
        rw [b3, a3]
      · omega
    · refine h.out q hq (fun j g hj hg => ?_)
      by_cases e : j = i
      · subst e
        rw [hf] at hj
        cases hj
        exact fun e => hfq ⟨hg, e⟩
      · exact hno j g (by rw [List.getElem?_set_ne (Ne.symm e)]; exact hj) hg
/-- A frame gets empty. -/
theorem KInv.drop {S : Pl Int} {I : List Int} {K : Int} (h : KInv S I K) (i : Nat) (f : Fm) (hf : S.fs[i]? = some f) (hsp : Spare S f) (hd wr : Nat) : KInv ⟨S.fs.set i Fm.nil, hd, wr, S.disk, S.fo⟩ I K := by
  have hi : i < S.fs.length := (List.getElem?_eq_some_iff.1 hf).1
  have key : ∀ (j : Nat) (g : Fm), (S.fs.set i Fm.nil)[j]? = some g → g.held = true → j ≠ i ∧ S.fs[j]? = some g := fun j g hj hg => by
    rcases getEl_set hf hj with ⟨_, rfl⟩ | h1
    · cases hg
    · exact h1
  refine ⟨h.dl, h.li, h.ib, h.k0, fun g hg hu => ?_, fun g hg hh => ?_, fun a b x y ha hb hx hy e => ?_, fun q hq hno => ?_, h.dk⟩
  · rcases pl_set_none i _ g hg with h1 | h1
    · exact h.un g h1 hu
    · rw [h1]; rfl
  · obtain ⟨j, hj⟩ := List.mem_iff_getElem?.1 hg
    exact h.he g (List.mem_of_getElem? (key j g hj hh).2) hh
  · exact h.inj a b x y (key a x ha hx).2 (key b y hb hy).2 hx hy e
  · show S.disk.getD q [] = _
    by_cases hfq : f.held = true ∧ f.page = (q : Int)
    · rcases hsp with h1 | ⟨q', b1, b2, b3⟩
      · rw [h1] at hfq; cases hfq.1
      · obtain ⟨q2, a1, a2, a3, _⟩ := h.he f (List.mem_of_getElem? hf) hfq.1
        have e1 : q' = q := by omega
        have e2 : q2 = q := by omega
        rw [e1] at b3
        rw [e2] at a3
        rw [b3, a3]
    · refine h.out q hq (fun j g hj hg => ?_)
      by_cases e : j = i
      · subst e
        rw [hf] at hj
        cases hj
        exact fun e => hfq ⟨hg, e⟩
      · exact hno j g (by rw [List.getElem?_set_ne (Ne.symm e)]; exact hj) hg

/-! ### Marks do not count -/
def core (l : List Fm) : List Fm := l.map Fm.unasked
theorem core_at {l l' : List Fm} (h : core l' = core l) (j : Nat) (g : Fm) (hj : l'[j]? = some g) : ∃ g0, l[j]? = some g0 ∧ g0.held = g.held ∧ g0.page = g.page ∧ g0.bs = g.bs ∧ g0.dirty = g.dirty ∧ g0.lsn = g.lsn := by
  have h1 : (core l')[j]? = some g.unasked := by simp [core, hj]
  rw [h] at h1
  simp only [core, List.getElem?_map, Option.map_eq_some_iff] at h1
  obtain ⟨g0, h2, h3⟩ := h1
  refine ⟨g0, h2, ?_, ?_, ?_, ?_, ?_⟩
  · have e := congrArg Fm.held h3
    exact e
  · have e := congrArg Fm.page h3
    exact e
  · have e := congrArg Fm.bs h3
    exact e
  · have e := congrArg Fm.dirty h3
    exact e
  · have e := congrArg Fm.lsn h3
    exact e
theorem core_set (l : List Fm) (i : Nat) (f : Fm) (hf : l[i]? = some f) (b : Bool) : core (l.set i { f with asked := b }) = core l := by
  unfold core
  rw [List.map_set]
  have hlt := (List.getElem?_eq_some_iff.1 hf).1
  apply List.ext_getElem?
  intro k
  by_cases e : i = k
  · subst e
    rw [List.getElem?_set_self (by simpa using hlt), List.getElem?_map, hf]
    rfl
  · rw [List.getElem?_set_ne e]
theorem Nobody.alike {S S' : Pl Int} {m : Int} (h : Nobody S m) (hc : core S'.fs = core S.fs) : Nobody S' m := fun j g hj hg e => by
  obtain ⟨g0, a1, a2, a3, _⟩ := core_at hc j g hj
  exact h j g0 a1 (a2.trans hg) (a3.trans e)
theorem KInv.alike {S S' : Pl Int} {I : List Int} {K : Int} (h : KInv S I K) (hc : core S'.fs = core S.fs) (hd : S'.disk = S.disk) (ho : S'.fo = S.fo) : KInv S' I K := by
  refine ⟨by rw [hd]; exact h.dl, h.li, h.ib, by rw [ho]; exact h.k0, fun g hg hu => ?_, fun g hg hh => ?_, fun a b x y ha hb hx hy e => ?_, fun q hq hno => ?_, by rw [hd, ho]; exact h.dk⟩
  · obtain ⟨j, hj⟩ := List.mem_iff_getElem?.1 hg
    obtain ⟨g0, a1, a2, a3, a4, a5, a6⟩ := core_at hc j g hj
    rw [← a5]
    exact h.un g0 (List.mem_of_getElem? a1) (a2.trans hu)
  · obtain ⟨j, hj⟩ := List.mem_iff_getElem?.1 hg
    obtain ⟨g0, a1, a2, a3, a4, a5, a6⟩ := core_at hc j g hj
    have := h.he g0 (List.mem_of_getElem? a1) (a2.trans hh)
    rw [a3, a4, a5, a6, ← hd] at this
    exact this
  · obtain ⟨x0, a1, a2, a3, _⟩ := core_at hc a x ha
    obtain ⟨y0, b1, b2, b3, _⟩ := core_at hc b y hb
    exact h.inj a b x0 y0 a1 b1 (a2.trans hx) (b2.trans hy) (a3.trans (e.trans b3.symm))
  · rw [hd]
    exact h.out q hq (fun j g hj hg => by
      obtain ⟨g0, a1, a2, a3, _⟩ := core_at hc.symm j g hj
      rw [← a3]
      exact hno j g0 a1 (a2.trans hg))
theorem clock_alike : ∀ (k : Nat) (S : Pl Int), core (S.clock k).2.fs = core S.fs ∧ (S.clock k).2.disk = S.disk ∧ (S.clock k).2.fo = S.fo ∧ (S.clock k).2.wr = S.wr
  | 0, S => ⟨rfl, rfl, rfl, rfl⟩
  | k + 1, S => by
    rw [Pl.clock]
    split
    · rename_i f hf
      split
      · have := clock_alike k { S with fs := S.fs.set S.hand f.unasked, hand := S.next }
        have e : core (S.fs.set S.hand f.unasked) = core S.fs := core_set S.fs S.hand f hf false
        simp only [e] at this
        exact this
      · exact ⟨rfl, rfl, rfl, rfl⟩
    · exact ⟨rfl, rfl, rfl, rfl⟩
theorem pick_alike (S : Pl Int) : core S.pick.2.fs = core S.fs ∧ S.pick.2.disk = S.disk ∧ S.pick.2.fo = S.fo ∧ S.pick.2.wr = S.wr := by
  unfold Pl.pick
  split
  · exact ⟨rfl, rfl, rfl, rfl⟩
  · exact clock_alike 65 S
end Go.Proofs.Ytifoafiidplpiaa
