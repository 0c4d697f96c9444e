/- PoolPlays as data: the program's pool and the document's come to the same. -/
import Derived.Test.YtifoafiidplpiaaQNew
namespace Go.Proofs.Ytifoafiidplpiaa
open Go.RowKit
set_option linter.unusedVariables false
set_option linter.unusedSimpArgs false

/-! ### Frames -/
def Nob (fs : List Fm) (m : Int) : Prop := ∀ (j : Nat) (g : Fm), fs[j]? = some g → g.held = true → g.page ≠ m
structure FrInv (fs : List Fm) : Prop where
  ok : ∀ f ∈ fs, FmOk f
  b5 : ∀ f ∈ fs, f.held = true → f.bs.length = 512
  inj : ∀ (i j : Nat) (f g : Fm), fs[i]? = some f → fs[j]? = some g → f.held = true → g.held = true → f.page = g.page → i = j
def DkOk (dk : List (List UInt8)) : Prop := dk.length = 6 ∧ ∀ i, i < 6 → (dk.getD i []).length = 512
def PInv (S : Pl (List Int)) : Prop := FrInv S.fs ∧ DkOk S.disk
theorem nob_none {σ : Type} {S : Pl σ} {m : Int} (h : S.find m = none) : Nob S.fs m := fun j g hj hg e => by
  have := List.findIdx?_eq_none_iff.1 h g (List.mem_of_getElem? hj)
  simp [Fm.is, hg, e] at this
theorem none_nob {σ : Type} {S : Pl σ} {m : Int} (h : Nob S.fs m) : S.find m = none := findIdx_no _ _ (fun j y hy => by
  cases hh : y.held with
  | false => simp [Fm.is, hh]
  | true =>
    simp only [Fm.is, hh, Bool.true_and]
    exact beq_eq_false_iff_ne.2 (h j y hy hh))
theorem FrInv.out {fs : List Fm} (h : FrInv fs) (m : Int) (hm : m < 0 ∨ 6 ≤ m) : Nob fs m := fun j g hj hg e => by
  have := (h.ok g (List.mem_of_getElem? hj)).2 hg
  omega
theorem Nob.alike {l l' : List Fm} {m : Int} (h : Nob l m) (hc : core l' = core l) : Nob l' m := fun j g hj hg e => by
  obtain ⟨g0, a1, a2, a3, _⟩ := core_at hc j g hj
  exact h j g0 a1 (a2.trans hg) (a3.trans e)
theorem FrInv.alike {l l' : List Fm} (h : FrInv l) (hc : core l' = core l) : FrInv l' := by
  refine ⟨fun g hg => ?_, fun g hg hh => ?_, fun a b x y ha hb hx hy e => ?_⟩
  · obtain ⟨j, hj⟩ := List.mem_iff_getElem?.1 hg
    obtain ⟨g0, a1, a2, a3, a4, a5, a6⟩ := core_at hc j g hj
    have := h.ok g0 (List.mem_of_getElem? a1)
    unfold FmOk at this ⊢
    rw [a2, a3, a5] at this
    exact this
  · obtain ⟨j, hj⟩ := List.mem_iff_getElem?.1 hg
    obtain ⟨g0, a1, a2, a3, a4, a5, a6⟩ := core_at hc j g hj
    rw [← a4]
    exact h.b5 g0 (List.mem_of_getElem? a1) (a2.trans hh)
  · obtain ⟨x0, a1, a2, a3, _⟩ := core_at hc a x ha
    obtain ⟨y0, b1, b2, b3, _⟩ := core_at hc b y hb
    exact h.inj a b x0 y0 a1 b1 (a2.trans hx) (b2.trans hy) (a3.trans (e.trans b3.symm))
theorem FrInv.put {l : List Fm} (h : FrInv l) (i : Nat) (f : Fm) (hf : l[i]? = some f) (m : Int) (hm : 0 ≤ m ∧ m < 6) (hoth : ∀ (j : Nat) (g : Fm), j ≠ i → l[j]? = some g → g.held = true → g.page ≠ m) (f' : Fm) (k1 : f'.held = true) (k2 : f'.page = m) (k3 : f'.bs.length = 512) : FrInv (l.set i f') := by
  refine ⟨fun g hg => ?_, fun g hg hh => ?_, fun a b x y ha hb hx hy e => ?_⟩
  · rcases List.mem_or_eq_of_mem_set hg with h1 | h1
    · exact h.ok g h1
    · rw [h1]; exact ⟨fun e => (by rw [k1] at e; cases e), fun _ => by rw [k2]; exact hm⟩
  · rcases List.mem_or_eq_of_mem_set hg with h1 | h1
    · exact h.b5 g h1 hh
    · rw [h1]; exact k3
  · rcases getEl_set hf ha with ⟨p1, p2⟩ | ⟨p1, p2⟩ <;> rcases getEl_set hf hb with ⟨q1, q2⟩ | ⟨q1, q2⟩
    · omega
    · exact absurd (by rw [← e, p2, k2]) (hoth b y q1 q2 hy)
    · exact absurd (by rw [e, q2, k2]) (hoth a x p1 p2 hx)
    · exact h.inj a b x y p2 q2 hx hy e
theorem FrInv.drop {l : List Fm} (h : FrInv l) (i : Nat) (f : Fm) (hf : l[i]? = some f) : FrInv (l.set i Fm.nil) := by
  have key : ∀ (j : Nat) (g : Fm), (l.set i Fm.nil)[j]? = some g → g.held = true → l[j]? = some g := fun j g hj hg => by
    rcases getEl_set hf hj with ⟨_, rfl⟩ | h1
    · cases hg
    · exact h1.2
  refine ⟨fun g hg => ?_, fun g hg hh => ?_, fun a b x y ha hb hx hy e => h.inj a b x y (key a x ha hx) (key b y hb hy) hx hy e⟩
  · rcases List.mem_or_eq_of_mem_set hg with h1 | h1
    · exact h.ok g h1
    · rw [h1]; exact ⟨fun _ => rfl, fun e => by cases e⟩
  · rcases List.mem_or_eq_of_mem_set hg with h1 | h1
    · exact h.b5 g h1 hh
    · rw [h1] at hh; cases hh
theorem DkOk.set {dk : List (List UInt8)} (h : DkOk dk) (i : Nat) (b : List UInt8) (hb : b.length = 512) : DkOk (dk.set i b) := by
  refine ⟨by simp [h.1], fun j hj => ?_⟩
  by_cases e : i = j
  · subst e
    rw [List.getD_eq_getElem?_getD, List.getElem?_set_self (by rw [h.1]; exact hj)]
    exact hb
  · rw [List.getD_eq_getElem?_getD, List.getElem?_set_ne e, ← List.getD_eq_getElem?_getD]
    exact h.2 j hj
theorem clock_alikeG {σ : Type} : ∀ (k : Nat) (S : Pl σ), core (S.clock k).2.fs = core S.fs ∧ (S.clock k).2.disk = S.disk ∧ (S.clock k).2.fo = S.fo ∧ (S.clock k).2.wr = S.wr
  | 0, S => ⟨rfl, rfl, rfl, rfl⟩
  | k + 1, S => by
    rw [Pl.clock]
    split
    · rename_i f hf
      split
      · have := clock_alikeG k { S with fs := S.fs.set S.hand f.unasked, hand := S.next }
        have e : core (S.fs.set S.hand f.unasked) = core S.fs := core_set S.fs S.hand f hf false
        simp only [e] at this
        exact this
      · exact ⟨rfl, rfl, rfl, rfl⟩
    · exact ⟨rfl, rfl, rfl, rfl⟩
theorem pick_alikeG {σ : Type} (S : Pl σ) : core S.pick.2.fs = core S.fs ∧ S.pick.2.disk = S.disk ∧ S.pick.2.fo = S.fo ∧ S.pick.2.wr = S.wr := by
  unfold Pl.pick
  split
  · exact ⟨rfl, rfl, rfl, rfl⟩
  · exact clock_alikeG 65 S

/-! ### Calls -/
section
variable {S : Pl (List Int)} {bad : Int}
theorem PInv.sound (h : PInv S) : S.sound 6 := fun f hf hd => by
  obtain ⟨a, b, c⟩ := (h.1.ok f hf).dirty hd
  exact ⟨b, c, h.1.b5 f hf a⟩
theorem PInv.full (h : PInv S) : S.full := fun f hf hh => h.1.b5 f hf hh
theorem PInv.rwrote (h : PInv S) (f : Fm) (hf : f ∈ S.fs) : PInv (S.rwrote bad f).2 ∧ (S.rwrote bad f).2.fs = S.fs ∧ (S.rwrote bad f).2.fo.length ≤ S.fo.length + 1 ∧ (S.rwrote bad f).2.wr ≤ S.wr + 1 ∧ ∀ m : Nat, m < 6 → Nob S.fs (m : Int) → (S.rwrote bad f).2.disk.getD m [] = S.disk.getD m [] := by
  unfold Pl.rwrote
  split
  · rename_i hd
    obtain ⟨a, b, c⟩ := (h.1.ok f hf).dirty hd
    split
    · exact ⟨h, rfl, by simp, by simp, fun _ _ _ => rfl⟩
    · refine ⟨⟨h.1, h.2.set _ _ (h.1.b5 f hf a)⟩, rfl, by simp, by simp, fun m hm hn => ?_⟩
      obtain ⟨j, hj⟩ := List.mem_iff_getElem?.1 hf
      have hne := hn j f hj a
      have e : f.page.toNat ≠ m := by omega
      show (S.disk.set f.page.toNat f.bs).getD m [] = _
      rw [List.getD_eq_getElem?_getD, List.getElem?_set_ne e, ← List.getD_eq_getElem?_getD]
  · exact ⟨h, rfl, by simp, by simp, fun _ _ _ => rfl⟩
theorem PInv.rfree (h : PInv S) (hh : S.hand < S.fs.length) : PInv (S.rfree bad).2.2 ∧ (S.rfree bad).2.2.fo.length ≤ S.fo.length + 1 ∧ (S.rfree bad).2.2.wr ≤ S.wr + 1 ∧ (∀ m, Nob S.fs m → Nob (S.rfree bad).2.2.fs m) ∧ ∀ m : Nat, m < 6 → Nob S.fs (m : Int) → (S.rfree bad).2.2.disk.getD m [] = S.disk.getD m [] := by
  obtain ⟨a1, a2, a3, a4⟩ := pick_alikeG S
  obtain ⟨l1, l2⟩ := pick_len S hh
  have hp : PInv S.pick.2 := ⟨h.1.alike a1, by rw [a2]; exact h.2⟩
  have hf : S.pick.2.fs[S.pick.1]? = some (S.pick.2.fs[S.pick.1]'(by omega)) := List.getElem?_eq_getElem (by omega)
  obtain ⟨b1, b2, b3, b4, b5⟩ := hp.rwrote (bad := bad) _ (List.mem_of_getElem? hf)
  have e : S.rfree bad = ((S.pick.2.rwrote bad (S.pick.2.fs[S.pick.1]'(by omega))).1, S.pick.1, (S.pick.2.rwrote bad (S.pick.2.fs[S.pick.1]'(by omega))).2) := by
    unfold Pl.rfree
    rw [hf]
  rw [e]
  refine ⟨b1, by rw [a3] at b3; exact b3, by rw [a4] at b4; exact b4, fun m hm => ?_, fun m hm hn => ?_⟩
  · rw [b2]; exact hm.alike a1
  · rw [b5 m hm (hn.alike a1), a2]
theorem PInv.rput (h : PInv S) (hh : S.hand < S.fs.length) (m : Int) (bs : List UInt8) (hb : bs.length = 512) (lsn : Int) : PInv (S.rput bad m bs lsn).2 ∧ (S.rput bad m bs lsn).2.fo.length ≤ S.fo.length + 1 ∧ (S.rput bad m bs lsn).2.wr ≤ S.wr + 1 := by
  unfold Pl.rput
  split
  · exact ⟨h, by simp, by simp⟩
  · rename_i hin
    cases hf : S.find m with
    | some i =>
      obtain ⟨f, h1, h2, h3, h4, h5, h6⟩ := find_some hf
      simp only [h2]
      refine ⟨⟨h.1.put i f h1 m (by omega) (fun j g hj hg hgh e => hj (h.1.inj j i g f hg h1 hgh h3 (by omega))) _ ((changed_held _ _ _).trans h3) ((changed_page _ _ _).trans h4) (by rw [changed_bs]; exact hb), h.2⟩, by simp, by simp⟩
    | none =>
      have hn := nob_none hf
      obtain ⟨b1, b2, b3, b4, b5⟩ := h.rfree (bad := bad) hh
      have hl := rfree_len bad S hh
      simp only
      split
      · exact ⟨b1, b2, b3⟩
      · exact ⟨⟨b1.1.put _ _ (List.getElem?_eq_getElem hl) m (by omega) (fun j g _ hg hgh => b4 m hn j g hg hgh) _ rfl rfl (by rw [changed_bs]; exact hb), b1.2⟩, b2, b3⟩
theorem PInv.revict (h : PInv S) (m : Int) : PInv (S.revict bad m).2 ∧ (S.revict bad m).2.fo.length ≤ S.fo.length + 1 ∧ (S.revict bad m).2.wr ≤ S.wr + 1 := by
  unfold Pl.revict
  split
  · exact ⟨h, by simp, by simp⟩
  · cases hf : S.find m with
    | none => exact ⟨h, by simp, by simp⟩
    | some i =>
      obtain ⟨f, h1, h2, h3, h4, h5, h6⟩ := find_some hf
      obtain ⟨b1, b2, b3, b4, b5⟩ := h.rwrote (bad := bad) f h5
      simp only [h2]
      split
      · exact ⟨b1, b3, b4⟩
      · exact ⟨⟨h.1.drop i f h1, b1.2⟩, b3, b4⟩
theorem PInv.rget (h : PInv S) (hh : S.hand < S.fs.length) (m : Int) : PInv (S.rget bad m).2.2 ∧ (S.rget bad m).2.2.fo.length ≤ S.fo.length + 1 ∧ (S.rget bad m).2.2.wr ≤ S.wr + 1 ∧ ((S.rget bad m).2.1 = 0 → (S.rget bad m).1.length = 512) ∧ ((S.rget bad m).2.1 ≠ 0 → (S.rget bad m).1 = []) := by
  unfold Pl.rget
  split
  · exact ⟨h, by simp, by simp, fun e => by simp at e, fun _ => rfl⟩
  · rename_i hin
    cases hf : S.find m with
    | some i =>
      obtain ⟨f, h1, h2, h3, h4, h5, h6⟩ := find_some hf
      simp only [h2]
      exact ⟨⟨h.1.alike (core_set S.fs i f h1 true), h.2⟩, by simp, by simp, fun _ => h.1.b5 f h5 h3, fun e => absurd rfl e⟩
    | none =>
      have hn := nob_none hf
      obtain ⟨b1, b2, b3, b4, b5⟩ := h.rfree (bad := bad) hh
      have hl := rfree_len bad S hh
      have hd := b1.2.2 m.toNat (by omega)
      simp only
      split
      · rename_i hx
        exact ⟨b1, b2, b3, fun e => absurd e hx, fun _ => rfl⟩
      · exact ⟨⟨b1.1.put _ _ (List.getElem?_eq_getElem hl) m (by omega) (fun j g _ hg hgh => b4 m hn j g hg hgh) _ rfl rfl hd, b1.2⟩, b2, b3, fun _ => hd, fun e => absurd rfl e⟩
end

/-! ### What the program's calls come to, whatever the force -/
section
variable {Φ : Force} {S T : Pl Φ.σ} {n i : Nat} {m : Int} {f : Fm} {x : Int}
theorem put_arg (bs : List UInt8) (lsn : Int) (hin : m < 0 ∨ (n : Int) ≤ m ∨ lsn < 1) : S.put n m bs lsn = (1, S) := by unfold Pl.put; rw [if_pos hin]
theorem put_err (bs : List UInt8) (lsn : Int) (hin : ¬ (m < 0 ∨ (n : Int) ≤ m ∨ lsn < 1)) (h : S.find m = none) (hf : S.free = (x, i, T)) (hx : x ≠ 0) : S.put n m bs lsn = (x, T) := by
  unfold Pl.put
  rw [if_neg hin, h]
  simp only [hf]
  rw [if_pos hx]
theorem evict_err (h : S.find m = some i) (hf : S.fs.getD i Fm.nil = f) (hw : S.wrote f = (x, T)) (hx : x ≠ 0) : S.evict m = (x, T) := by
  unfold Pl.evict
  rw [h]
  simp only [hf, hw]
  rw [if_pos hx]
theorem get_some (h : S.find m = some i) : S.get n m = ((S.fs.getD i Fm.nil).bs, 0, { S with fs := S.fs.set i { S.fs.getD i Fm.nil with asked := true } }) := by unfold Pl.get; rw [h]
theorem get_arg (hin : m < 0 ∨ (n : Int) ≤ m) (h : S.find m = none) : S.get n m = ([], 1, S) := by
  unfold Pl.get
  rw [h]
  simp only
  rw [if_pos hin]
theorem get_err (hin : ¬ (m < 0 ∨ (n : Int) ≤ m)) (h : S.find m = none) (hf : S.free = (x, i, T)) (hx : x ≠ 0) : S.get n m = ([], x, T) := by
  unfold Pl.get
  rw [h]
  simp only [hf]
  rw [if_neg hin, if_pos hx]
theorem get_none (hin : ¬ (m < 0 ∨ (n : Int) ≤ m)) (h : S.find m = none) (hf : S.free = (0, i, T)) : S.get n m = (S.disk.getD m.toNat [], 0, { T with fs := T.fs.set i (Fm.read m (S.disk.getD m.toNat [])) }) := by
  unfold Pl.get
  rw [h]
  simp only [hf]
  rw [if_neg hin, if_neg (by simp)]
end

/-! ### The program's pool, at this force -/
section
variable {S : Pl (List Int)} {bad : Int} {gf gb : Nat}
theorem wrote_eq (f : Fm) : Pl.wrote (Φ := Force.plays gf gb bad) S f = S.rwrote bad f := by
  unfold Pl.wrote Pl.rwrote
  by_cases hd : f.dirty = true
  · rw [if_pos hd, if_pos hd]
    show (if (if f.lsn = bad then (60 : Int) else 0) ≠ 0 then ((if f.lsn = bad then (60 : Int) else 0), _) else _) = _
    by_cases hb : f.lsn = bad
    · rw [if_pos hb, if_pos hb, if_pos (by decide)]
      rfl
    · rw [if_neg hb, if_neg hb, if_neg (by decide)]
      rfl
  · rw [if_neg hd, if_neg hd]
    rfl
theorem free_eq : Pl.free (Φ := Force.plays gf gb bad) S = S.rfree bad := by
  have e : ∀ (T : Pl (List Int)) (f : Fm), Pl.wrote (Φ := Force.plays gf gb bad) T f = T.rwrote bad f := fun T f => wrote_eq (S := T) f
  unfold Pl.free Pl.rfree
  show (match S.pick.2.fs[S.pick.1]? with
    | some f => ((Pl.wrote (Φ := Force.plays gf gb bad) S.pick.2 f).1, S.pick.1, (Pl.wrote (Φ := Force.plays gf gb bad) S.pick.2 f).2)
    | none => (0, S.pick.1, S.pick.2)) = _
  simp only [e]
  rfl
theorem put_eq (m : Int) (bs : List UInt8) (lsn : Int) : Pl.put (Φ := Force.plays gf gb bad) S 6 m bs lsn = S.rput bad m bs lsn := by
  have e := free_eq (S := S) (bad := bad) (gf := gf) (gb := gb)
  by_cases hin : m < 0 ∨ 6 ≤ m ∨ lsn < 1
  · have h1 : S.rput bad m bs lsn = (1, S) := by unfold Pl.rput; rw [if_pos hin]
    rw [h1]
    exact put_arg (Φ := Force.plays gf gb bad) bs lsn hin
  · cases hf : S.find m with
    | some i =>
      have h1 : S.rput bad m bs lsn = (0, { S with fs := S.fs.set i ((S.fs.getD i Fm.nil).changed bs lsn) }) := by unfold Pl.rput; rw [if_neg hin, hf]
      rw [h1]
      exact put_some (Φ := Force.plays gf gb bad) bs lsn hin hf rfl
    | none =>
      obtain ⟨⟨x, i, T⟩, hT⟩ : ∃ T, S.rfree bad = T := ⟨_, rfl⟩
      rw [hT] at e
      by_cases hx : x = 0
      · subst hx
        have h1 : S.rput bad m bs lsn = (0, { T with fs := T.fs.set i ((Fm.fresh m).changed bs lsn) }) := by unfold Pl.rput; rw [if_neg hin, hf]; simp only [hT]; rw [if_neg (by simp)]
        rw [h1]
        exact put_none (Φ := Force.plays gf gb bad) bs lsn hin hf e
      · have h1 : S.rput bad m bs lsn = (x, T) := by unfold Pl.rput; rw [if_neg hin, hf]; simp only [hT]; rw [if_pos hx]
        rw [h1]
        exact put_err (Φ := Force.plays gf gb bad) bs lsn hin hf e hx
theorem evict_eq (h : PInv S) (m : Int) : Pl.evict (Φ := Force.plays gf gb bad) S m = S.revict bad m := by
  by_cases h0 : m < 0
  · have hf : S.find m = none := none_nob (S := S) (h.1.out m (by omega))
    have h1 : S.revict bad m = (0, S) := by unfold Pl.revict; rw [if_pos h0]
    rw [h1]
    exact evict_none (Φ := Force.plays gf gb bad) hf
  · cases hf : S.find m with
    | none =>
      have h1 : S.revict bad m = (0, S) := by unfold Pl.revict; rw [if_neg h0, hf]
      rw [h1]
      exact evict_none (Φ := Force.plays gf gb bad) hf
    | some i =>
      have e := wrote_eq (S := S) (bad := bad) (gf := gf) (gb := gb) (S.fs.getD i Fm.nil)
      obtain ⟨⟨x, T⟩, hT⟩ : ∃ T, S.rwrote bad (S.fs.getD i Fm.nil) = T := ⟨_, rfl⟩
      rw [hT] at e
      by_cases hx : x = 0
      · subst hx
        have h1 : S.revict bad m = (0, { T with fs := S.fs.set i Fm.nil }) := by unfold Pl.revict; rw [if_neg h0, hf]; simp only [hT]; rw [if_neg (by simp)]
        rw [h1]
        exact evict_some (Φ := Force.plays gf gb bad) hf rfl e
      · have h1 : S.revict bad m = (x, T) := by unfold Pl.revict; rw [if_neg h0, hf]; simp only [hT]; rw [if_pos hx]
        rw [h1]
        exact evict_err (Φ := Force.plays gf gb bad) hf rfl e hx
theorem get_eq (h : PInv S) (hh : S.hand < S.fs.length) (m : Int) : Pl.get (Φ := Force.plays gf gb bad) S 6 m = S.rget bad m := by
  have e := free_eq (S := S) (bad := bad) (gf := gf) (gb := gb)
  by_cases hin : m < 0 ∨ 6 ≤ m
  · have hf : S.find m = none := none_nob (S := S) (h.1.out m hin)
    have h1 : S.rget bad m = ([], 1, S) := by unfold Pl.rget; rw [if_pos hin]
    rw [h1]
    exact get_arg (Φ := Force.plays gf gb bad) hin hf
  · cases hf : S.find m with
    | some i =>
      have h1 : S.rget bad m = ((S.fs.getD i Fm.nil).bs, 0, { S with fs := S.fs.set i { S.fs.getD i Fm.nil with asked := true } }) := by unfold Pl.rget; rw [if_neg hin, hf]
      rw [h1]
      exact get_some (Φ := Force.plays gf gb bad) hf
    | none =>
      obtain ⟨_, _, _, _, b5⟩ := h.rfree (bad := bad) hh
      have hm : m = ((m.toNat : Nat) : Int) := by omega
      have hd := b5 m.toNat (by omega) (by rw [← hm]; exact nob_none hf)
      obtain ⟨⟨x, i, T⟩, hT⟩ : ∃ T, S.rfree bad = T := ⟨_, rfl⟩
      rw [hT] at e hd
      by_cases hx : x = 0
      · subst hx
        have h1 : S.rget bad m = (S.disk.getD m.toNat [], 0, { T with fs := T.fs.set i (Fm.read m (S.disk.getD m.toNat [])) }) := by
          unfold Pl.rget; rw [if_neg hin, hf]; simp only [hT]; rw [if_neg (by simp)]
          simp only at hd
          rw [hd]
        rw [h1]
        exact get_none (Φ := Force.plays gf gb bad) hin hf e
      · have h1 : S.rget bad m = ([], x, T) := by unfold Pl.rget; rw [if_neg hin, hf]; simp only [hT]; rw [if_pos hx]
        rw [h1]
        exact get_err (Φ := Force.plays gf gb bad) hin hf e hx
/-- The list of dirty pages. -/
theorem mem_dirtE (h : PInv S) (x : Int × Int) : x ∈ dirtE S 6 ↔ x ∈ dirtL S.fs := by
  unfold dirtE dirtL
  simp only [List.mem_flatMap, List.mem_range, List.mem_map, List.mem_filter]
  constructor
  · rintro ⟨n, hn, hx⟩
    unfold dirtAt at hx
    cases hf : S.find (n : Int) with
    | none => rw [hf] at hx; simp at hx
    | some i =>
      obtain ⟨f, h1, h2, h3, h4, h5, h6⟩ := find_some hf
      rw [hf] at hx
      simp only [h2] at hx
      split at hx
      · rename_i hd
        simp at hx
        exact ⟨f, ⟨h5, hd⟩, by rw [hx, h4]⟩
      · simp at hx
  · rintro ⟨f, ⟨hf, hd⟩, rfl⟩
    obtain ⟨a, b, c⟩ := (h.1.ok f hf).dirty hd
    refine ⟨f.page.toNat, by omega, ?_⟩
    have hp : ((f.page.toNat : Nat) : Int) = f.page := by omega
    obtain ⟨j, hj⟩ := List.mem_iff_getElem?.1 hf
    cases hfi : S.find (f.page.toNat : Int) with
    | none => exact absurd hp.symm (nob_none hfi j f hj a)
    | some i =>
      obtain ⟨g, h1, h2, h3, h4, h5, h6⟩ := find_some hfi
      have : i = j := h.1.inj i j g f h1 hj h3 a (by omega)
      subst this
      rw [h1] at hj
      cases hj
      unfold dirtAt
      rw [hfi]
      simp only [h2]
      rw [if_pos hd, hp]
      simp
theorem sorted_dirtE (S : Pl (List Int)) : ∀ k, (dirtE S k).Pairwise (fun x y => x.1 < y.1) ∧ ∀ x ∈ dirtE S k, x.1 < (k : Int)
  | 0 => by simp [dirtE]
  | k + 1 => by
    obtain ⟨h1, h2⟩ := sorted_dirtE S k
    have h3 : ∀ x ∈ dirtAt S k, x.1 = (k : Int) := fun x hx => by
      unfold dirtAt at hx
      split at hx
      · split at hx
        · simp at hx; rw [hx]
        · simp at hx
      · simp at hx
    have h4 : (dirtAt S k).Pairwise (fun x y => x.1 < y.1) := by
      unfold dirtAt
      split
      · split <;> simp
      · simp
    rw [dirtE_succ]
    refine ⟨List.pairwise_append.2 ⟨h1, h4, fun x hx y hy => by rw [h3 y hy]; exact h2 x hx⟩, fun x hx => ?_⟩
    rcases List.mem_append.1 hx with h | h
    · have := h2 x h; omega
    · rw [h3 x h]; omega
theorem PInv.nodup (h : PInv S) : (dirtL S.fs).Nodup := by
  unfold dirtL
  rw [List.nodup_iff_pairwise_ne, List.pairwise_map, List.pairwise_filter, List.pairwise_iff_getElem]
  intro i j hi hj hij d1 d2 e
  have := h.1.inj i j _ _ (List.getElem?_eq_getElem hi) (List.getElem?_eq_getElem hj) ((h.1.ok _ (List.getElem_mem hi)).dirty d1).1 ((h.1.ok _ (List.getElem_mem hj)).dirty d2).1 (by simpa using congrArg Prod.fst e)
  omega
theorem PInv.perm (h : PInv S) : (dirtL S.fs).Perm (dirtE S 6) := by
  have nd2 : (dirtE S 6).Nodup := by
    rw [List.nodup_iff_pairwise_ne]
    exact (sorted_dirtE S 6).1.imp (fun h e => by rw [e] at h; omega)
  exact (List.perm_ext_iff_of_nodup h.nodup nd2).2 (fun x => (mem_dirtE h x).symm)
theorem PInv.dirt (h : PInv S) (d : List (Int × Int)) (hp : d.Perm (dirtL S.fs)) (hs : d.Pairwise (fun x y => x.1 ≤ y.1)) : d = dirtE S 6 := by
  refine List.Perm.eq_of_pairwise (le := fun x y => x.1 ≤ y.1) (fun a b ha hb h1 h2 => ?_) hs ((sorted_dirtE S 6).1.imp (fun h => by omega)) (hp.trans h.perm)
  have ha' : a ∈ dirtE S 6 := (hp.trans h.perm).mem_iff.1 ha
  by_cases e : a = b
  · exact e
  · exfalso
    obtain ⟨i, hi, rfl⟩ := List.mem_iff_getElem.1 ha'
    obtain ⟨j, hj, rfl⟩ := List.mem_iff_getElem.1 hb
    have hpw := List.pairwise_iff_getElem.1 (sorted_dirtE S 6).1
    rcases Nat.lt_trichotomy i j with h3 | h3 | h3
    · have := hpw i j hi hj h3; omega
    · subst h3; exact e rfl
    · have := hpw j i hj hi h3; omega
theorem PInv.few (h : PInv S) : (dirtL S.fs).length ≤ 12 := by
  rw [h.perm.length_eq]
  have := dirtE_le S 6
  omega
end
theorem PInv.made (m : Nat) : PInv (Pl.made m (List.replicate 6 (zerosN 512)) []) := by
  have hf : ∀ f ∈ (Pl.made (σ := List Int) m (List.replicate 6 (zerosN 512)) []).fs, f = Fm.nil := fun f hf => (List.mem_replicate.1 hf).2
  refine ⟨⟨fun f h1 => ?_, fun f h1 h2 => ?_, fun i j f g h1 h2 h3 => ?_⟩, by simp [Pl.made], fun i hi => ?_⟩
  · rw [hf f h1]; exact ⟨fun _ => rfl, fun e => by cases e⟩
  · rw [hf f h1] at h2; cases h2
  · rw [hf f (List.mem_of_getElem? h1)] at h3; cases h3
  · exact disk_len 6 i hi
end Go.Proofs.Ytifoafiidplpiaa
