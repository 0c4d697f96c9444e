/- A part of it: SView SGet. -/
import Derived.Test.YteeembildppgmaaGreatM19
import Derived.Test.YteeembildppgmaaGreatM20
namespace Go.Proofs.YteeembildppgmaaGreat
open Go.RowKit
set_option linter.unusedVariables false
set_option linter.unusedSimpArgs false
def RS (R R' : Rg) : Prop := ∃ f, R' = { R with fin := f }
theorem RS.refl (R : Rg) : RS R R := ⟨R.fin, rfl⟩
theorem RS.trans {A B C : Rg} (h : RS A B) (k : RS B C) : RS A C := by
 obtain ⟨f, rfl⟩ := h
 obtain ⟨g, rfl⟩ := k
 exact ⟨g, rfl⟩
theorem RS.tail {A B : Rg} (h : RS A B) : B.tail = A.tail := by obtain ⟨f, rfl⟩ := h; rfl
theorem RS.room {A B : Rg} (h : RS A B) : B.room = A.room := by obtain ⟨f, rfl⟩ := h; rfl
theorem RS.held {A B : Rg} (h : RS A B) : B.held = A.held := by obtain ⟨f, rfl⟩ := h; rfl
theorem RS.start {A B : Rg} (h : RS A B) : B.start = A.start := by obtain ⟨f, rfl⟩ := h; rfl

structure PInv (n : Nat) (S : Pl (Rg × List (List UInt8))) (V : Nat → List UInt8) : Prop where
 dl : S.fo.2.length = n
 v5 : ∀ q, q < n → (V q).length = 512
 un : ∀ f ∈ S.fs, f.held = false → f.dirty = false
 he : ∀ f ∈ S.fs, f.held = true → ∃ q : Nat, q < n ∧ f.page = (q : Int) ∧ f.bs = V q ∧ (f.dirty = false → S.fo.2.getD q [] = f.bs)
 inj : ∀ (i j : Nat) (f g : Fm), S.fs[i]? = some f → S.fs[j]? = some g → f.held = true → g.held = true → f.page = g.page → i = j
 out : ∀ q : Nat, q < n → (∀ (j : Nat) (g : Fm), S.fs[j]? = some g → g.held = true → g.page ≠ (q : Int)) → S.fo.2.getD q [] = V q
 hand : S.hand < S.fs.length
 rl : ∀ f ∈ S.fs, 0 ≤ f.rlsn ∧ f.rlsn ≤ 4611686018427387904
def PSpare (S : Pl (Rg × List (List UInt8))) (f : Fm) : Prop := f.held = false ∨ ∃ q : Nat, f.page = (q : Int) ∧ S.fo.2.getD q [] = f.bs
def PNobody (S : Pl (Rg × List (List UInt8))) (m : Int) : Prop := ∀ (j : Nat) (g : Fm), S.fs[j]? = some g → g.held = true → g.page ≠ m
section
variable {n : Nat} {S S' : Pl (Rg × List (List UInt8))} {V : Nat → List UInt8}
theorem PInv.sound (h : PInv n S V) : S.sound n := fun f hf hd => by
 cases hh : f.held with
 | false => rw [h.un f hf hh] at hd; cases hd
 | true =>
   obtain ⟨q, h1, h2, h3, _⟩ := h.he f hf hh
   exact ⟨by omega, by omega, by rw [h3]; exact h.v5 q h1⟩
theorem PInv.full (h : PInv n S V) : S.full := fun f hf hh => by
 obtain ⟨q, h1, h2, h3, _⟩ := h.he f hf hh
 rw [h3]; exact h.v5 q h1
theorem find_noneP {m : Int} (h : S.find m = none) : PNobody S m := fun j g hj hg e => by
 have := List.findIdx?_eq_none_iff.1 h g (List.mem_of_getElem? hj)
 simp [Fm.is, hg, e] at this
theorem getEl_set {α : Type} {l : List α} {i j : Nat} {a b g : α} (hi : l[i]? = some b) (h : (l.set i a)[j]? = some g) : (j = i ∧ g = a) ∨ (j ≠ i ∧ l[j]? = some g) := by
 have hlt := (List.getElem?_eq_some_iff.1 hi).1
 by_cases e : i = j
 · subst e
   rw [List.getElem?_set_self hlt] at h
   cases h
   exact .inl ⟨rfl, rfl⟩
 · rw [List.getElem?_set_ne e] at h
   exact .inr ⟨Ne.symm e, h⟩
theorem PInv.set (h : PInv n S V) (i : Nat) (f : Fm) (hf : S.fs[i]? = some f) (m : Nat) (hm : m < n) (hsp : PSpare S f ∨ (f.held = true ∧ f.page = (m : Int)))
 (hoth : ∀ (j : Nat) (g : Fm), j ≠ i → S.fs[j]? = some g → g.held = true → g.page ≠ (m : Int)) (f' : Fm) (b : List UInt8) (hd wr : Nat) (hb : b.length = 512)
 (k1 : f'.held = true) (k2 : f'.page = (m : Int)) (k3 : f'.bs = b) (k5 : f'.dirty = false → S.fo.2.getD m [] = f'.bs) (hhd : hd < S.fs.length) (kr : 0 ≤ f'.rlsn ∧ f'.rlsn ≤ 4611686018427387904) : PInv n ⟨S.fs.set i f', hd, wr, S.fo⟩ (fun q => if q = m then b else V q) := by
 have hi : i < S.fs.length := (List.getElem?_eq_some_iff.1 hf).1
 refine ⟨h.dl, fun q hq => ?_, fun g hg hu => ?_, fun g hg hh => ?_, fun a b x y ha hb hx hy e => ?_, fun q hq hno => ?_, by simpa using hhd, fun g hg => ?_⟩
 · by_cases e : q = m
   · simp only [if_pos e]; exact hb
   · simp only [if_neg e]; exact h.v5 q hq
 · rcases List.mem_or_eq_of_mem_set hg with h1 | h1
   · exact h.un g h1 hu
   · rw [h1, k1] at hu; cases hu
 · obtain ⟨j, hj⟩ := List.mem_iff_getElem?.1 hg
   rcases getEl_set hf hj with ⟨_, rfl⟩ | ⟨e1, e2⟩
   · exact ⟨m, hm, k2, by rw [if_pos rfl]; exact k3, k5⟩
   · obtain ⟨q, a1, a2, a3, a5⟩ := h.he g (List.mem_of_getElem? e2) hh
     have hqm : q ≠ m := fun e => hoth j g e1 e2 hh (by omega)
     exact ⟨q, a1, a2, by rw [if_neg hqm]; exact a3, a5⟩
 · rcases getEl_set hf ha with ⟨p1, p2⟩ | ⟨p1, p2⟩ <;> rcases getEl_set hf hb with ⟨q1, q2⟩ | ⟨q1, q2⟩
   · omega
   · exact absurd (by rw [← e, p2, k2]) (hoth b y q1 q2 hy)
   · exact absurd (by rw [e, q2, k2]) (hoth a x p1 p2 hx)
   · exact h.inj a b x y p2 q2 hx hy e
 · have hqm : q ≠ m := fun e => hno i f' (List.getElem?_set_self hi) k1 (by rw [k2, e])
   simp only [if_neg hqm]
   show S.fo.2.getD q [] = _
   by_cases hfq : f.held = true ∧ f.page = (q : Int)
   · rcases hsp with (h1 | ⟨q', b2, b3⟩) | h1
     · rw [h1] at hfq; cases hfq.1
     · obtain ⟨q2, a1, a2, a3, _⟩ := h.he f (List.mem_of_getElem? hf) hfq.1
       have e1 : q' = q := by omega
       have e2 : q2 = q := by omega
       rw [e1] at b3
       rw [e2] at a3
       rw [b3, a3]
     · omega
   · refine h.out q hq (fun j g hj hg => ?_)
     by_cases e : j = i
     · subst e
       rw [hf] at hj
       cases hj
       exact fun e => hfq ⟨hg, e⟩
     · exact hno j g (by rw [List.getElem?_set_ne (Ne.symm e)]; exact hj) hg
 · rcases List.mem_or_eq_of_mem_set hg with h1 | h1
   · exact h.rl g h1
   · rw [h1]; exact kr
theorem PInv.drop (h : PInv n S V) (i : Nat) (f : Fm) (hf : S.fs[i]? = some f) (hsp : PSpare S f) (hd wr : Nat) (hhd : hd < S.fs.length) : PInv n ⟨S.fs.set i Fm.nil, hd, wr, S.fo⟩ V := by
 have hi : i < S.fs.length := (List.getElem?_eq_some_iff.1 hf).1
 have key : ∀ (j : Nat) (g : Fm), (S.fs.set i Fm.nil)[j]? = some g → g.held = true → j ≠ i ∧ S.fs[j]? = some g := fun j g hj hg => by
  rcases getEl_set hf hj with ⟨_, rfl⟩ | h1
  · cases hg
  · exact h1
 refine ⟨h.dl, h.v5, fun g hg hu => ?_, fun g hg hh => ?_, fun a b x y ha hb hx hy e => ?_, fun q hq hno => ?_, by simpa using hhd, fun g hg => ?_⟩
 · rcases List.mem_or_eq_of_mem_set hg with h1 | h1
   · exact h.un g h1 hu
   · rw [h1]; rfl
 · obtain ⟨j, hj⟩ := List.mem_iff_getElem?.1 hg
   exact h.he g (List.mem_of_getElem? (key j g hj hh).2) hh
 · exact h.inj a b x y (key a x ha hx).2 (key b y hb hy).2 hx hy e
 · show S.fo.2.getD q [] = _
   by_cases hfq : f.held = true ∧ f.page = (q : Int)
   · rcases hsp with h1 | ⟨q', b2, b3⟩
     · rw [h1] at hfq; cases hfq.1
     · obtain ⟨q2, a1, a2, a3, _⟩ := h.he f (List.mem_of_getElem? hf) hfq.1
       have e1 : q' = q := by omega
       have e2 : q2 = q := by omega
       rw [e1] at b3
       rw [e2] at a3
       rw [b3, a3]
   · refine h.out q hq (fun j g hj hg => ?_)
     by_cases e : j = i
     · subst e
       rw [hf] at hj
       cases hj
       exact fun e => hfq ⟨hg, e⟩
     · exact hno j g (by rw [List.getElem?_set_ne (Ne.symm e)]; exact hj) hg
 · rcases List.mem_or_eq_of_mem_set hg with h1 | h1
   · exact h.rl g h1
   · rw [h1]; exact ⟨Int.le_refl 0, by decide⟩
def core (l : List Fm) : List Fm := l.map Fm.unasked
theorem core_at {l l' : List Fm} (h : core l' = core l) (j : Nat) (g : Fm) (hj : l'[j]? = some g) : ∃ g0, l[j]? = some g0 ∧ g0.held = g.held ∧ g0.page = g.page ∧ g0.bs = g.bs ∧ g0.dirty = g.dirty ∧ g0.lsn = g.lsn := by
 have h1 : (core l')[j]? = some g.unasked := by simp [core, hj]
 rw [h] at h1
 simp only [core, List.getElem?_map, Option.map_eq_some_iff] at h1
 obtain ⟨g0, h2, h3⟩ := h1
 refine ⟨g0, h2, ?_, ?_, ?_, ?_, ?_⟩
 · have e := congrArg Fm.held h3
   exact e
 · have e := congrArg Fm.page h3
   exact e
 · have e := congrArg Fm.bs h3
   exact e
 · have e := congrArg Fm.dirty h3
   exact e
 · have e := congrArg Fm.lsn h3
   exact e
theorem core_rl {l l' : List Fm} (h : core l' = core l) (j : Nat) (g : Fm) (hj : l'[j]? = some g) : ∃ g0, l[j]? = some g0 ∧ g0.rlsn = g.rlsn := by
 have h1 : (core l')[j]? = some g.unasked := by simp [core, hj]
 rw [h] at h1
 simp only [core, List.getElem?_map, Option.map_eq_some_iff] at h1
 obtain ⟨g0, h2, h3⟩ := h1
 refine ⟨g0, h2, ?_⟩
 have e := congrArg Fm.rlsn h3
 exact e
theorem core_set (l : List Fm) (i : Nat) (f : Fm) (hf : l[i]? = some f) (b : Bool) : core (l.set i { f with asked := b }) = core l := by
 unfold core
 rw [List.map_set]
 have hlt := (List.getElem?_eq_some_iff.1 hf).1
 apply List.ext_getElem?
 intro k
 by_cases e : i = k
 · subst e
   rw [List.getElem?_set_self (by simpa using hlt), List.getElem?_map, hf]
   rfl
 · rw [List.getElem?_set_ne e]
theorem PInv.alike (h : PInv n S V) (hc : core S'.fs = core S.fs) (ho : S'.fo = S.fo) (hh : S'.hand < S'.fs.length) : PInv n S' V := by
 refine ⟨by rw [ho]; exact h.dl, h.v5, fun g hg hu => ?_, fun g hg hh => ?_, fun a b x y ha hb hx hy e => ?_, fun q hq hno => ?_, hh, fun g hg => ?_⟩
 · obtain ⟨j, hj⟩ := List.mem_iff_getElem?.1 hg
   obtain ⟨g0, a1, a2, a3, a4, a5, a6⟩ := core_at hc j g hj
   rw [← a5]
   exact h.un g0 (List.mem_of_getElem? a1) (a2.trans hu)
 · obtain ⟨j, hj⟩ := List.mem_iff_getElem?.1 hg
   obtain ⟨g0, a1, a2, a3, a4, a5, a6⟩ := core_at hc j g hj
   have := h.he g0 (List.mem_of_getElem? a1) (a2.trans hh)
   rw [a3, a4, a5, ← ho] at this
   exact this
 · obtain ⟨x0, a1, a2, a3, _⟩ := core_at hc a x ha
   obtain ⟨y0, b1, b2, b3, _⟩ := core_at hc b y hb
   exact h.inj a b x0 y0 a1 b1 (a2.trans hx) (b2.trans hy) (a3.trans (e.trans b3.symm))
 · rw [ho]
   exact h.out q hq (fun j g hj hg => by
    obtain ⟨g0, a1, a2, a3, _⟩ := core_at hc.symm j g hj
    rw [← a3]
    exact hno j g0 a1 (a2.trans hg))
 · obtain ⟨j, hj⟩ := List.mem_iff_getElem?.1 hg
   obtain ⟨g0, a1, a2⟩ := core_rl hc j g hj
   rw [← a2]
   exact h.rl g0 (List.mem_of_getElem? a1)
theorem clock_alike : ∀ (k : Nat) (S : Pl (Rg × List (List UInt8))), S.hand < S.fs.length → core (S.clock k).2.fs = core S.fs ∧ (S.clock k).2.fo = S.fo ∧ (S.clock k).2.wr = S.wr ∧ (S.clock k).2.hand < (S.clock k).2.fs.length
 | 0, S, h => ⟨rfl, rfl, rfl, h⟩
 | k + 1, S, h => by
   have hn : S.next < S.fs.length := Nat.mod_lt _ (by omega)
   rw [Pl.clock]
   split
   · rename_i f hf
     split
     · have := clock_alike k { S with fs := S.fs.set S.hand f.unasked, hand := S.next } (by simpa using hn)
       have e : core (S.fs.set S.hand f.unasked) = core S.fs := core_set S.fs S.hand f hf false
       simp only [e] at this
       exact this
     · exact ⟨rfl, rfl, rfl, hn⟩
   · exact ⟨rfl, rfl, rfl, h⟩
theorem pick_alike (S : Pl (Rg × List (List UInt8))) (h : S.hand < S.fs.length) : core S.pick.2.fs = core S.fs ∧ S.pick.2.fo = S.fo ∧ S.pick.2.wr = S.wr ∧ S.pick.2.hand < S.pick.2.fs.length := by
 unfold Pl.pick
 split
 · exact ⟨rfl, rfl, rfl, h⟩
 · exact clock_alike 65 S h
end
section
variable {c : Cf} {S S' : Pl (Rg × List (List UInt8))} {V : Nat → List UInt8}
def cWrote (c : Cf) (S : Pl (Rg × List (List UInt8))) (f : Fm) : Int × Pl (Rg × List (List UInt8)) := Pl.wrote (Φ := c.bk) S f
def cFree (c : Cf) (S : Pl (Rg × List (List UInt8))) : Int × Nat × Pl (Rg × List (List UInt8)) := Pl.free (Φ := c.bk) S
def cGet (c : Cf) (S : Pl (Rg × List (List UInt8))) (q : Nat) : List UInt8 × Int × Pl (Rg × List (List UInt8)) := Pl.get (Φ := c.bk) S c.n (q : Int)
def cPut (c : Cf) (S : Pl (Rg × List (List UInt8))) (q : Nat) (b : List UInt8) (l : Int) : Int × Pl (Rg × List (List UInt8)) := Pl.put (Φ := c.bk) S c.n (q : Int) b l
def cEvict (c : Cf) (S : Pl (Rg × List (List UInt8))) (q : Nat) : Int × Pl (Rg × List (List UInt8)) := Pl.evict (Φ := c.bk) S (q : Int)
structure PStep (n : Nat) (S S' : Pl (Rg × List (List UInt8))) (V V' : Nat → List UInt8) : Prop where
 inv : PInv n S' V'
 rs : RS S.fo.1 S'.fo.1
 wr : S'.wr ≤ S.wr + 1
 len : S'.fs.length = S.fs.length
theorem PInv.wrote (h : PInv c.n S V) (i : Nat) (f : Fm) (hf : S.fs[i]? = some f) : (cWrote c S f).1 = 0 ∧ PStep c.n S (cWrote c S f).2 V V ∧ PSpare (cWrote c S f).2 f ∧ (cWrote c S f).2.fs = S.fs ∧ (cWrote c S f).2.hand = S.hand := by
 have hm := List.mem_of_getElem? hf
 by_cases hd : f.dirty = true
 · have hh : f.held = true := by
    cases e : f.held with
    | true => rfl
    | false => have := h.un f hm e; rw [hd] at this; cases this
   obtain ⟨q, a1, a2, a3, a4⟩ := h.he f hm hh
   obtain ⟨R', hR', hRS⟩ : ∃ R', (if (S.fo.1.fin : Int) < f.lsn then (({ S.fo.1 with fin := S.fo.1.tail }, S.fo.2) : Rg × List (List UInt8)) else S.fo) = (R', S.fo.2) ∧ RS S.fo.1 R' := by
    split
    · exact ⟨_, rfl, ⟨_, rfl⟩⟩
    · exact ⟨_, rfl, RS.refl _⟩
   have e : cWrote c S f = (0, { S with fo := (R', S.fo.2.set q f.bs), wr := S.wr + 1 }) := by
    unfold cWrote Pl.wrote
    rw [if_pos hd]
    show (if (0 : Int) ≠ 0 then _ else _) = _
    rw [if_neg (by simp)]
    have hq : f.page.toNat = q := by omega
    show ((0 : Int), ({ S with fo := ((if (S.fo.1.fin : Int) < f.lsn then (({ S.fo.1 with fin := S.fo.1.tail }, S.fo.2) : Rg × List (List UInt8)) else S.fo).1, (if (S.fo.1.fin : Int) < f.lsn then (({ S.fo.1 with fin := S.fo.1.tail }, S.fo.2) : Rg × List (List UInt8)) else S.fo).2.set f.page.toNat f.bs), wr := S.wr + 1 } : Pl (Rg × List (List UInt8)))) = _
    rw [hR', hq]
   rw [e]
   have hset : ∀ j, (S.fo.2.set q f.bs).getD j [] = if j = q then f.bs else S.fo.2.getD j [] := fun j => by
    by_cases ej : j = q
    · rw [if_pos ej, ej, List.getD_eq_getElem?_getD, List.getElem?_set_self (by rw [h.dl]; exact a1)]; rfl
    · rw [if_neg ej, List.getD_eq_getElem?_getD, List.getElem?_set_ne (Ne.symm ej), ← List.getD_eq_getElem?_getD]
   refine ⟨rfl, ⟨⟨by simpa using h.dl, h.v5, h.un, fun g hg hh' => ?_, h.inj, fun q' hq' hno => ?_, h.hand, h.rl⟩, hRS, Nat.le_refl _, rfl⟩, .inr ⟨q, a2, by rw [hset, if_pos rfl]⟩, rfl, rfl⟩
   · obtain ⟨q', b1, b2, b3, b4⟩ := h.he g hg hh'
     refine ⟨q', b1, b2, b3, fun hd' => ?_⟩
     show (S.fo.2.set q f.bs).getD q' [] = _
     rw [hset]
     by_cases e2 : q' = q
     · rw [if_pos e2, a3, b3, e2]
     · rw [if_neg e2]; exact b4 hd'
   · show (S.fo.2.set q f.bs).getD q' [] = _
     rw [hset]
     by_cases e2 : q' = q
     · rw [if_pos e2, a3, e2]
     · rw [if_neg e2]; exact h.out q' hq' hno
 · have e : cWrote c S f = (0, S) := by unfold cWrote Pl.wrote; rw [if_neg hd]
   rw [e]
   have hd' : f.dirty = false := by simpa using hd
   refine ⟨rfl, ⟨h, RS.refl _, Nat.le_succ _, rfl⟩, ?_, rfl, rfl⟩
   cases hh : f.held with
   | false => exact .inl hh
   | true =>
     obtain ⟨q, a1, a2, a3, a4⟩ := h.he f hm hh
     exact .inr ⟨q, a2, a4 hd'⟩
theorem PInv.free (h : PInv c.n S V) : (cFree c S).1 = 0 ∧ PStep c.n S (cFree c S).2.2 V V ∧ core (cFree c S).2.2.fs = core S.fs ∧ ∃ f, (cFree c S).2.2.fs[(cFree c S).2.1]? = some f ∧ PSpare (cFree c S).2.2 f := by
 obtain ⟨p1, p2, p3, p4⟩ := pick_alike S h.hand
 have hl := pick_len S h.hand
 have hi : PInv c.n S.pick.2 V := h.alike p1 p2 p4
 obtain ⟨f, hf⟩ : ∃ f, S.pick.2.fs[S.pick.1]? = some f := ⟨_, List.getElem?_eq_getElem (by rw [hl.2]; exact hl.1)⟩
 obtain ⟨a1, a2, a3, a4, a5⟩ := hi.wrote (c := c) S.pick.1 f hf
 have e : cFree c S = ((cWrote c S.pick.2 f).1, S.pick.1, (cWrote c S.pick.2 f).2) := by
  unfold cFree Pl.free
  rw [hf]
  rfl
 rw [e]
 refine ⟨a1, ⟨a2.inv, by rw [← p2]; exact a2.rs, by rw [← p3]; exact a2.wr, by rw [a2.len, hl.2]⟩, by rw [a4]; exact p1, f, by rw [a4]; exact hf, a3⟩
theorem PInv.get (h : PInv c.n S V) (q : Nat) (hq : q < c.n) : (cGet c S q).1 = V q ∧ (cGet c S q).2.1 = 0 ∧ PStep c.n S (cGet c S q).2.2 V V := by
 cases hf : S.find (q : Int) with
 | some i =>
   obtain ⟨f, hfi, hfd, hhe, hpm, hfm, hi⟩ := find_some hf
   have e : cGet c S q = (f.bs, 0, { S with fs := S.fs.set i { f with asked := true } }) := by unfold cGet Pl.get; rw [hf]; simp only [hfd]
   rw [e]
   obtain ⟨q', a1, a2, a3, _⟩ := h.he f hfm hhe
   have eq : q' = q := by omega
   exact ⟨by rw [a3, eq], rfl, h.alike (core_set _ _ _ hfi true) rfl (by simpa using h.hand), RS.refl _, Nat.le_succ _, by simp⟩
 | none =>
   have hno := find_noneP hf
   have hdk := h.out q hq hno
   obtain ⟨b1, b2, b3, f, b4, b5⟩ := h.free (c := c)
   have e : cGet c S q = (S.fo.2.getD q [], 0, { (cFree c S).2.2 with fs := (cFree c S).2.2.fs.set (cFree c S).2.1 (Fm.read q (S.fo.2.getD q [])) }) := by
    unfold cGet Pl.get
    rw [hf]
    show (if (q : Int) < 0 ∨ (c.n : Int) ≤ (q : Int) then _ else _) = _
    rw [if_neg (by omega)]
    show (if (cFree c S).1 ≠ 0 then _ else _) = _
    rw [if_neg (by rw [b1]; simp)]
    rfl
   rw [e, hdk]
   have hset := b2.inv.set (cFree c S).2.1 f b4 q hq (.inl b5) (fun j g hj hg hgh => by
    obtain ⟨g0, a1, a2, a3, _⟩ := core_at b3 j g hg
    rw [← a3]
    exact hno j g0 a1 (a2.trans hgh)) (Fm.read q (V q)) (V q) (cFree c S).2.2.hand (cFree c S).2.2.wr (h.v5 q hq) rfl rfl rfl (fun _ => by
     show (cFree c S).2.2.fo.2.getD q [] = V q
     exact b2.inv.out q hq (fun j g hg hgh => by
      obtain ⟨g0, a1, a2, a3, _⟩ := core_at b3 j g hg
      rw [← a3]
      exact hno j g0 a1 (a2.trans hgh))) b2.inv.hand ⟨Int.le_refl 0, by show (0 : Int) ≤ 4611686018427387904; omega⟩
   have hV : (fun q' => if q' = q then V q else V q') = V := by funext q'; by_cases e' : q' = q <;> simp [e']
   rw [hV] at hset
   exact ⟨rfl, rfl, hset, b2.rs, b2.wr, by simpa using b2.len⟩
theorem PInv.put (h : PInv c.n S V) (q : Nat) (hq : q < c.n) (b : List UInt8) (hb : b.length = 512) (l : Int) (hl : 1 ≤ l) (hlB : l ≤ 4611686018427387904) : (cPut c S q b l).1 = 0 ∧ PStep c.n S (cPut c S q b l).2 V (fun q' => if q' = q then b else V q') := by
 cases hf : S.find (q : Int) with
 | some i =>
   obtain ⟨f, hfi, hfd, hhe, hpm, hfm, hi⟩ := find_some hf
   have e : cPut c S q b l = (0, { S with fs := S.fs.set i (f.changed b l) }) := by unfold cPut Pl.put; rw [if_neg (by omega), hf]; simp only [hfd]
   rw [e]
   have hset := h.set i f hfi q hq (.inr ⟨hhe, hpm⟩) (fun j g hj hg hgh e' => hj (h.inj j i g f hg hfi hgh hhe (by rw [e', hpm]))) (f.changed b l) b S.hand S.wr hb hhe hpm rfl (fun hd => by cases hd) h.hand (by
    show 0 ≤ (if f.dirty = true then f.rlsn else l) ∧ (if f.dirty = true then f.rlsn else l) ≤ 4611686018427387904
    split
    · exact h.rl f hfm
    · exact ⟨by omega, hlB⟩)
   exact ⟨rfl, hset, RS.refl _, Nat.le_succ _, by simp⟩
 | none =>
   have hno := find_noneP hf
   obtain ⟨b1, b2, b3, f, b4, b5⟩ := h.free (c := c)
   have e : cPut c S q b l = (0, { (cFree c S).2.2 with fs := (cFree c S).2.2.fs.set (cFree c S).2.1 ((Fm.fresh q).changed b l) }) := by
    unfold cPut Pl.put
    rw [if_neg (by omega), hf]
    show (if (cFree c S).1 ≠ 0 then _ else _) = _
    rw [if_neg (by rw [b1]; simp)]
    rfl
   rw [e]
   have hset := b2.inv.set (cFree c S).2.1 f b4 q hq (.inl b5) (fun j g hj hg hgh => by
    obtain ⟨g0, a1, a2, a3, _⟩ := core_at b3 j g hg
    rw [← a3]
    exact hno j g0 a1 (a2.trans hgh)) ((Fm.fresh q).changed b l) b (cFree c S).2.2.hand (cFree c S).2.2.wr hb rfl rfl rfl (fun hd => by cases hd) b2.inv.hand (by
     show 0 ≤ l ∧ l ≤ 4611686018427387904
     exact ⟨by omega, hlB⟩)
   exact ⟨rfl, hset, b2.rs, b2.wr, by simpa using b2.len⟩
theorem PInv.evict (h : PInv c.n S V) (q : Nat) : (cEvict c S q).1 = 0 ∧ PStep c.n S (cEvict c S q).2 V V := by
 cases hf : S.find (q : Int) with
 | none =>
   have e : cEvict c S q = (0, S) := by unfold cEvict Pl.evict; rw [hf]
   rw [e]
   exact ⟨rfl, h, RS.refl _, Nat.le_succ _, rfl⟩
 | some i =>
   obtain ⟨f, hfi, hfd, hhe, hpm, hfm, hi⟩ := find_some hf
   obtain ⟨a1, a2, a3, a4, a5⟩ := h.wrote (c := c) i f hfi
   have e : cEvict c S q = (0, { (cWrote c S f).2 with fs := S.fs.set i Fm.nil }) := by
    unfold cEvict Pl.evict
    rw [hf]
    simp only [hfd]
    show (if (cWrote c S f).1 ≠ 0 then _ else _) = _
    rw [if_neg (by rw [a1]; simp)]
    rfl
   rw [e]
   have hd := a2.inv.drop i f (by rw [a4]; exact hfi) a3 (cWrote c S f).2.hand (cWrote c S f).2.wr a2.inv.hand
   rw [a4] at hd
   exact ⟨rfl, hd, a2.rs, a2.wr, by simp⟩
end
end Go.Proofs.YteeembildppgmaaGreat
namespace Go.Proofs.YteeembildppgmaaGreat
open Go.RowKit
set_option linter.unusedVariables false
set_option linter.unusedSimpArgs false
def patch (bs : List UInt8) (o : Nat) (ns : List UInt8) : List UInt8 := bs.take o ++ (ns ++ bs.drop (o + ns.length))
theorem length_patch (bs : List UInt8) (o : Nat) (ns : List UInt8) (h : o + ns.length ≤ bs.length) : (patch bs o ns).length = bs.length := by
 unfold patch
 simp
 omega
theorem patch_nil (bs : List UInt8) (o : Nat) : patch bs o [] = bs := by simp [patch]
theorem patch_snoc (bs : List UInt8) (o : Nat) (ns : List UInt8) (b : UInt8) (h : o + ns.length < bs.length) : (patch bs o ns).set (o + ns.length) b = patch bs o (ns ++ [b]) := by
 unfold patch
 rw [List.set_append_right _ _ (by simp; omega)]
 have e : o + ns.length - (bs.take o).length = ns.length := by simp; omega
 rw [e, List.set_append_right _ _ (Nat.le_refl _), Nat.sub_self, List.drop_eq_getElem_cons h]
 simp [Nat.add_assoc]
theorem BlkAt.set {w : World} {g c : Nat} {bs : List UInt8} {cur : Array Value} (h : BlkAt w g c bs cur) (k : Nat) (b : UInt8) : BlkAt (w.setCell ⟨g, k, none⟩ (bcell b)) g c (bs.set k b) (cur.setIfInBounds k (bcell b)) := by
 refine ⟨heap_setCell_same w g k _ _ _ h.blk, ?_, by simpa using h.cap, by simpa using h.size⟩
 rw [Array.toList_setIfInBounds, List.length_set, List.take_set, h.pre]
 simp [secCells, List.map_set]
theorem BlkAt.cell {w : World} {g c : Nat} {bs : List UInt8} {cur : Array Value} (h : BlkAt w g c bs cur) (k : Nat) (hk : k < bs.length) : w.cell? ⟨g, k, none⟩ = some (.int .u8 (bs[k].toNat : Int)) := by
 have := h.src.2 k (.int .u8 (bs[k].toNat : Int)) (by simp [secCells, bcell, List.getElem?_eq_getElem hk])
 rw [Addr.add_mid, Nat.zero_add] at this
 exact this
theorem BlkAt.fz {w : World} {g c : Nat} {bs : List UInt8} {cur : Array Value} (h : BlkAt w g c bs cur) (k : Nat) : w.frozen? ⟨g, k, none⟩ = false := frozen_of_row w g k _ _ h.blk
theorem BlkAt.keep {w w' : World} {g c : Nat} {bs : List UInt8} {cur : Array Value} (h : BlkAt w g c bs cur) (hb : w'.heap[g]? = w.heap[g]?) : BlkAt w' g c bs cur := ⟨by rw [hb]; exact h.blk, h.pre, h.cap, h.size⟩
theorem BlkAt.of {w : World} {g : Nat} {bs : List UInt8} (h : w.heap[g]? = some (.cells (secCells bs).toArray 5 (0, 0))) : BlkAt w g bs.length bs (secCells bs).toArray :=
 ⟨h, by simp [← length_secCells bs], Nat.le_refl _, by simp [length_secCells]⟩
set_option maxHeartbeats 1000000 in
theorem putNumber_any (g o m mc n c : Nat) (bs : List UInt8) (cur : Array Value) (w : World) (h : BlkAt w g c bs cur) (ho : o + 8 ≤ bs.length) (hm : 8 ≤ m) (hn : n < 4611686018427387904) :
 Calls Tryz.prog 96 #[.slice (some ⟨g, o, none⟩) m mc, .int .i64 (n : Int)] w fun e w' => e = .returned (.tuple #[]) ∧ (∃ cur', BlkAt w' g c (patch bs o (be8 n)) cur') ∧ Off [g] w w' := by
 have H := hide h
 clear h
 go_enter Tryz.func96, Tryz.ntmps96
 go_wp2
 go_loopw [5] (fun i wr => ∃ k : Nat, k ≤ 8 ∧ i = .int .i64 k ∧ (∃ cur', BlkAt wr g c (patch bs o ((be8 n).take k)) cur') ∧ Off [g] w wr) (fun i _ => 8 - (intOf i).toNat)
 case atStart => exact ⟨0, by omega, rfl, ⟨cur, by rw [List.take_zero, patch_nil]; exact H.out⟩, Off.refl _ _⟩
 case round =>
  obtain ⟨k, hk, rfl, ⟨cur', hB⟩, hO⟩ := hrel
  by_cases hlt : k < 8
  · have hlk : ((be8 n).take k).length = k := by rw [List.length_take, length_be8]; omega
    have hlen : (patch bs o ((be8 n).take k)).length = bs.length := length_patch _ _ _ (by rw [hlk]; omega)
    have hcell := hB.cell (o + k) (by rw [hlen]; omega)
    have hfz := hB.fz (o + k)
    have HB := hide hB
    have HO := hide hO
    clear hB hO
    generalize ((patch bs o ((be8 n).take k))[o + k]'(by rw [hlen]; omega)).toNat = old at *
    go_wp2
    go_roundw
    case rel =>
     refine ⟨k + 1, by omega, by first | rfl | go_num, ?_, HO.out.setCell _ _ (.inl (by simp))⟩
     rw [be8_cell n k hlt]
     have := HB.out.set (o + k) ((be8 n)[k]'(by rw [length_be8]; exact hlt))
     have e := patch_snoc bs o ((be8 n).take k) ((be8 n)[k]'(by rw [length_be8]; exact hlt)) (by rw [hlk]; omega)
     rw [hlk] at e
     rw [e, ← List.take_succ_eq_append_getElem (by rw [length_be8]; exact hlt)] at this
     exact ⟨_, this⟩
    case measure => simp [intOf]; omega
  · have hk8 : k = 8 := by omega
    subst hk8
    have HB := hide hB
    have HO := hide hO
    clear hB hO
    go_wp2
    go_end0
    have := HB.out
    rw [List.take_of_length_le (by rw [length_be8]; omega)] at this
    exact ⟨rfl, ⟨_, this⟩, HO.out⟩
section
variable {w0 w w' : World} {s : Nat} {c : Cf} {xs tb : List Nat} {ov : Value} {ps : List Nat} {uvs : List Value} {S : St} {V : Nat → List UInt8}
theorem StIs.keptNew (h : StIs w0 w s c xs tb ov ps uvs S) (pl : Pl (Rg × List (List UInt8))) (g : Nat) (hP : PoolAt c.bk w0 w' c.P c.G (g :: (s :: (tb ++ xs))) pl) (hK : Kept (s :: (tb ++ xs)) w w') (hg : w.heap.size ≤ g) : StIs w0 w' s c (g :: xs) tb ov ps uvs { S with pool := pl } :=
 { h with
   pool := hP.mind (fun k hk => by
    simp only [List.mem_cons, List.mem_append] at hk ⊢
    rcases hk with h1 | h1 | h1 | h1
    · exact .inr (.inl h1)
    · exact .inr (.inr (.inl h1))
    · exact .inl h1
    · exact .inr (.inr (.inr h1)))
   head := (hK.2 s (by simp)).trans h.head
   own := owns_of_block h.own (fun k e => hK.2 k (by simp [h.inO k e]))
   tx := fun i x T uv a b d => let ⟨vs, t⟩ := h.tx i x T uv a b d; ⟨vs, t.keep hK.1 (fun k hk => ⟨hk, hK.2 k (by simp [hk])⟩)⟩
   sx := fun hm => by
    simp only [List.mem_append, List.mem_cons] at hm
    rcases hm with h1 | h1 | h1
    · exact h.sx (by simp [h1])
    · have := h.lts (k := s) (by simp); omega
    · exact h.sx (by simp [h1])
   tbx := fun k hk hm => by
    rcases List.mem_cons.1 hm with h1 | h1
    · have := h.lts (k := k) (by simp [hk]); omega
    · exact h.tbx k hk h1 }
theorem pget_ok (h : StIs w0 w s c xs tb ov ps uvs S) (hi : PInv c.n S.pool V) (hwr : S.pool.wr ≤ 1000000) (pg : Nat) (hp : pg < c.n) :
 Calls Tryz.prog 62 #[.pointer (some ⟨c.P, 0, none⟩), .int .i64 (pg : Int)] w fun e w' => ∃ g cc cur, e = .returned (.tuple #[.slice (some ⟨g, 0, none⟩) 512 cc, .int .i64 0]) ∧ w.heap.size ≤ g ∧ BlkAt w' g cc (V pg) cur ∧
  StIs w0 w' s c (g :: xs) tb ov ps uvs { S with pool := (cGet c S.pool pg).2.2 } ∧ Kept (s :: (tb ++ xs)) w w' := by
 obtain ⟨a1, a2, a3⟩ := hi.get (c := c) pg hp
 refine (get_ok (Φ := c.bk) h.pool (pg : Int) hi.sound hi.full hwr a2).mono ?_
 rintro e w' ⟨g, cc, cur, rfl, hg, hb, hP, hK⟩
 have hb : BlkAt w' g cc (cGet c S.pool pg).1 cur := hb
 rw [a1] at hb
 exact ⟨g, cc, cur, rfl, hg, hb, h.keptNew _ g hP hK hg, hK⟩
set_option maxHeartbeats 1000000 in
set_option maxRecDepth 100000 in
theorem sget_ok (h : StIs w0 w s c xs tb ov ps uvs S) (hi : PInv c.n S.pool V) (hwr : S.pool.wr ≤ 1000000) (pg off n : Nat) (hp : pg < c.n) (hn : 1 ≤ n) (ho : off + n ≤ 504) :
 Calls Tryz.prog 34 #[.pointer (some ⟨s, 0, none⟩), .int .i64 (pg : Int), .int .i64 (off : Int), .int .i64 (n : Int)] w fun e w' => ∃ g, e = .returned (.tuple #[.slice (some ⟨g, 0, none⟩) n n, .int .i64 0]) ∧ w.heap.size ≤ g ∧
  w'.heap[g]? = some (.cells (secCells (((V pg).drop (8 + off)).take n)).toArray 5 (0, 0)) ∧ StIs w0 w' s c (g :: xs) tb ov ps uvs { S with pool := (cGet c S.pool pg).2.2 } ∧ Kept (s :: (tb ++ xs)) w w' := by
 have c2 := h.c2
 have HG := hide (pget_ok h hi hwr pg hp)
 have HH := hide (fun w => heed_ok w s)
 have hv5 := hi.v5 pg hp
 have HLT : Hid (∀ k ∈ s :: (tb ++ xs), k < w.heap.size) := fun k hk => h.lts hk
 clear h hi
 go_enter Tryz.func34, Tryz.ntmps34
 go_wp2_with (go_at_call 62; refine HG.out.mono ?_; rintro e w1 ⟨g, cc, cur, rfl, hg, hb, h1, hK1⟩; have H1 := hide (And.intro hg (And.intro hb (And.intro h1 hK1))); clear hg hb h1 hK1)
 have hmk := makeN n (by omega) w1
 have hcut : ∀ W : World, (Instr.sliceAt 36 (.slice (some ⟨g, 0, none⟩) 512 cc) (some (.int .i64 (8 + (off : Int)))) none none).run Tryz.prog W = .ok (.slice (some ⟨g, 8 + off, none⟩) (504 - off) (cc - (8 + off))) W := fun W => by
  have := run_cut_from W (some ⟨g, 0, none⟩) 512 cc (8 + off) (by omega)
  have hcc : 512 ≤ cc := by have := H1.out.2.1.cap; omega
  rw [show ((8 + off : Nat) : Int) = 8 + (off : Int) by omega, show 512 - (8 + off) = 504 - off by omega] at this
  rw [this]
  unfold cutAt
  rw [if_neg (by omega)]
  simp [Addr.add]
 have hb1 : Below w1.heap.size w1 (w1.alloc (.cells (secCells (zerosN n)).toArray 5)) := (Below.refl _ _).alloc (Nat.le_refl _) _
 have HB1 := hide hb1
 have HG2 : Hid ((w1.alloc (.cells (secCells (zerosN n)).toArray 5)).heap[w1.heap.size]? = some (.cells (secCells (zerosN n)).toArray 5 (0, 0))) := heap_alloc_new w1 _
 have HSRC : Hid (∀ j v, (secCells (((V pg).drop (8 + off)).take n))[j]? = some v → (w1.alloc (.cells (secCells (zerosN n)).toArray 5)).cell? ((⟨g, 8 + off, none⟩ : Addr).add j) = some v) := fun j v hv => by
  have hs : SrcAt (w1.alloc (.cells (secCells (zerosN n)).toArray 5)) g 0 (V pg) := H1.out.2.1.src.of hb1.size (hb1.block g H1.out.2.1.lt)
  have hj := (List.getElem?_eq_some_iff.1 hv).1
  rw [length_secCells, List.length_take, List.length_drop, hv5] at hj
  have := hs.2 (8 + off + j) v (by
   rw [← hv]
   simp only [secCells, List.getElem?_map, List.getElem?_take, List.getElem?_drop]
   rw [if_pos (by omega)])
  rw [Addr.add_mid] at this ⊢
  rw [← this]
  congr 2
  omega
 have HLN : Hid ((secCells (((V pg).drop (8 + off)).take n)).length = Nat.min (504 - off) n) := by
  show _ = _
  rw [length_secCells, List.length_take, List.length_drop, hv5]
  show _ = min (504 - off) n
  omega
 have HFT : Hid (0 + (secCells (((V pg).drop (8 + off)).take n)).length ≤ (secCells (zerosN n)).toArray.size) := by
  show _ ≤ _
  rw [length_secCells, List.length_take, List.length_drop, hv5, List.size_toArray, length_secCells, length_zerosN]
  omega
 clear hb1
 have hneg : ¬ ((off : Int) < 0) := by omega
 go_wp2_with (first
  | (go_at_call 51; refine (HH.out _).mono ?_; rintro e w3 ⟨rfl, hw⟩; have hw := hw.symm; subst hw)
  | (refine wpList_copy_own rfl (.tmp 29) (.tmp 33) 36 36 rfl 5 Tryz.underlying36 (by kernel_rfl) w1.heap.size 0 n n ⟨g, 8 + off, none⟩ (504 - off) (cc - (8 + off)) rfl rfl (secCells (zerosN n)).toArray 5 HG2.out (secCells (((V pg).drop (8 + off)).take n)) HLN.out HSRC.out HFT.out (one_secCells _) ?_))
 go_ret2
 have hdr : List.drop (secCells (((V pg).drop (8 + off)).take n)).length (secCells (zerosN n)) = [] := by
  refine List.drop_of_length_le ?_
  rw [HLN.out, length_secCells, length_zerosN]
  show n ≤ min (504 - off) n
  omega
 refine ⟨w1.heap.size, rfl, H1.out.2.2.2.1, ?_⟩
 simp only [List.take_zero, List.nil_append, Nat.zero_add, hdr, List.append_nil]
 obtain ⟨W4, hW4⟩ : ∃ W4, (w1.alloc (.cells (secCells (zerosN n)).toArray 5)).setRow w1.heap.size (secCells (((V pg).drop (8 + off)).take n)).toArray = W4 := ⟨_, rfl⟩
 have hg4 : W4.heap[w1.heap.size]? = some (.cells (secCells (((V pg).drop (8 + off)).take n)).toArray 5 (0, 0)) := by
  rw [← hW4, setRow_heap _ _ _ _ _ _ HG2.out]
 have hb4 : Below w1.heap.size w1 W4 := by rw [← hW4]; exact below_setRow HB1.out (Nat.le_refl _) _
 rw [hW4]
 refine ⟨hg4, H1.out.2.2.1.mindNew hb4 (fun k hk => ?_), H1.out.2.2.2.trans ⟨hb4.size, fun k hk => hb4.block k (Nat.lt_of_lt_of_le (HLT.out k hk) H1.out.2.2.2.1)⟩⟩
 rcases List.mem_cons.1 hk with h3 | h3
 · subst h3
   exact .inr ⟨Nat.le_refl _, (Array.getElem?_eq_some_iff.1 hg4).1⟩
 · exact .inl (by simp [h3])
end
end Go.Proofs.YteeembildppgmaaGreat
