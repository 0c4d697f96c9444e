/- PoolKeeps: a force that keeps the greatest LSN it was asked for; what the pool's calls come to. -/
import Derived.Test.YtifoafiidplpiaaKPlain
import Derived.Test.YtifoafiidplpiaaCAt
namespace Go.Proofs.Ytifoafiidplpiaa
open Go.RowKit
set_option linter.unusedVariables false
set_option linter.unusedSimpArgs false

theorem top_call (g : Nat) (s l : Int) (w : World) (hg : w.heap[g]? = some (.cells #[.int .i64 s] 3 (0, 0))) :
    Calls Try.prog 26 #[.int .i64 l, .pointer (some ⟨g, 0, none⟩)] w fun e w' => e = .returned (.int .i64 0) ∧ w' = w.setCell ⟨g, 0, none⟩ (.int .i64 (max s l)) := by
  have hc : w.cell? ⟨g, 0, none⟩ = some (.int .i64 s) := by rw [cell_of_row w g 0 _ _ _ hg]; rfl
  have hz : w.frozen? ⟨g, 0, none⟩ = false := frozen_of_row w g 0 _ _ hg
  by_cases h : l ≤ s
  · have hm : max s l = s := by omega
    rw [hm]
    go_enter Try.func26, Try.ntmps26
    go_wp2
    go_ret
    exact ⟨rfl, rfl⟩
  · have hm : max s l = l := by omega
    rw [hm]
    go_enter Try.func26, Try.ntmps26
    go_wp2
    go_ret
    exact ⟨rfl, rfl⟩
def Force.top (g0 : Nat) : Force where
  σ := Int
  g := 26
  cb := #[.pointer (some ⟨g0, 0, none⟩)]
  held := fun w ff s => ff = [g0] ∧ w.heap[g0]? = some (.cells #[.int .i64 s] 3 (0, 0))
  step := fun s l => (0, max s l)
  ok := fun _ => True
  stay := fun w w' ff s h _ hk => ⟨h.1, (hk g0 (by rw [h.1]; simp)).trans h.2⟩
  lim := fun w ff s h k hk => by rw [h.1] at hk; simp at hk; subst hk; exact (Array.getElem?_eq_some_iff.1 h.2).1
  enters := enters_of Try.func26 (by kernel_rfl) rfl
  call := fun w ff s l h _ _ _ => (top_call g0 s l w h.2).mono (fun e w' ⟨h1, h2⟩ => by
    refine ⟨h1, ff, ⟨h.1, ?_⟩, ?_, fun k hk => .inl hk⟩
    · rw [h2, heap_setCell_same w g0 0 _ _ _ h.2]; rfl
    · rw [h2, h.1]; exact (Off.refl _ _).setCell _ _ (by simp))

section
variable {g0 : Nat} {S : Pl Int} {I : List Int} {K : Int}
theorem KInv.wrote (h : KInv S I K) (i : Nat) (f : Fm) (hf : S.fs[i]? = some f) : ∃ T : Pl Int, Pl.wrote (Φ := Force.top g0) S f = (0, T) ∧ KInv T I K ∧ Spare T f ∧ T.fs = S.fs ∧ T.wr ≤ S.wr + 1 := by
  have hm := List.mem_of_getElem? hf
  cases hd : f.dirty with
  | false =>
    refine ⟨S, by unfold Pl.wrote; rw [if_neg (by rw [hd]; simp)]; rfl, h, ?_, rfl, by omega⟩
    cases hh : f.held with
    | false => exact .inl hh
    | true =>
      obtain ⟨q, h1, h2, h3, h4, h5⟩ := h.he f hm hh
      exact .inr ⟨q, h1, h2, h5 hd⟩
  | true =>
    cases hh : f.held with
    | false => rw [h.un f hm hh] at hd; cases hd
    | true =>
      obtain ⟨q, h1, h2, h3, h4, h5⟩ := h.he f hm hh
      obtain ⟨hl1, hl2⟩ := h4 hd
      have hib := h.ib q
      have hk0 := h.k0
      have hq : f.page.toNat = q := by omega
      have hdl := h.dl
      have d1 : (S.disk.set q f.bs).getD q [] = f.bs := by rw [List.getD_eq_getElem?_getD, List.getElem?_set_self (by omega)]; rfl
      have d2 : ∀ k, k ≠ q → (S.disk.set q f.bs).getD k [] = S.disk.getD k [] := fun k e => by rw [List.getD_eq_getElem?_getD, List.getElem?_set_ne (Ne.symm e), List.getD_eq_getElem?_getD]
      refine ⟨{ S with fo := max S.fo f.lsn, disk := S.disk.set q f.bs, wr := S.wr + 1 }, ?_, ?_, .inr ⟨q, h1, h2, d1⟩, rfl, Nat.le_refl _⟩
      · have := wrote_dirty (Φ := Force.top g0) (S := S) (f := f) (show Int from max (show Int from S.fo) f.lsn) hd rfl
        rw [this, hq]
        rfl
      · refine ⟨by simp [hdl], h.li, h.ib, ⟨by simp only; omega, by simp only; omega⟩, h.un, fun g hg hgh => ?_, h.inj, fun k hk hno => ?_, fun k hk => ?_⟩
        · obtain ⟨k, a1, a2, a3, a4, a5⟩ := h.he g hg hgh
          refine ⟨k, a1, a2, a3, a4, fun hc => ?_⟩
          by_cases e : k = q
          · obtain ⟨j, hj⟩ := List.mem_iff_getElem?.1 hg
            have := h.inj i j f g hf hj hh hgh (by omega)
            subst this
            rw [hf] at hj
            cases hj
            rw [hd] at hc
            cases hc
          · show (S.disk.set q f.bs).getD k [] = _
            rw [d2 k e]; exact a5 hc
        · have e : k ≠ q := fun e => hno i f hf hh (by omega)
          show (S.disk.set q f.bs).getD k [] = _
          rw [d2 k e]; exact h.out k hk hno
        · by_cases e : k = q
          · subst e
            exact ⟨f.lsn, by omega, by simp only; omega, by show (S.disk.set k f.bs).getD k [] = _; rw [d1, h3, hl1]⟩
          · obtain ⟨l, b1, b2, b3⟩ := h.dk k hk
            exact ⟨l, b1, by simp only; omega, by show (S.disk.set q f.bs).getD k [] = _; rw [d2 k e]; exact b3⟩
theorem KInv.free (h : KInv S I K) (hh : S.hand < S.fs.length) : ∃ (i : Nat) (T : Pl Int) (f : Fm), Pl.free (Φ := Force.top g0) S = (0, i, T) ∧ KInv T I K ∧ T.fs[i]? = some f ∧ Spare T f ∧ T.wr ≤ S.wr + 1 ∧ ∀ m, Nobody S m → Nobody T m := by
  obtain ⟨a1, a2, a3, a4⟩ := pick_alike S
  obtain ⟨l1, l2⟩ := pick_len S hh
  have hp := h.alike a1 a2 a3
  have hf : S.pick.2.fs[S.pick.1]? = some (S.pick.2.fs[S.pick.1]'(by omega)) := List.getElem?_eq_getElem (by omega)
  obtain ⟨T, b1, b2, b3, b4, b5⟩ := hp.wrote (g0 := g0) S.pick.1 _ hf
  refine ⟨S.pick.1, T, _, ?_, b2, by rw [b4]; exact hf, b3, by omega, fun m hm => ?_⟩
  · unfold Pl.free
    have : (Pl.pick (σ := (Force.top g0).σ) S).2.fs[(Pl.pick (σ := (Force.top g0).σ) S).1]? = some (S.pick.2.fs[S.pick.1]'(by omega)) := hf
    rw [this]
    show ((Pl.wrote (Φ := Force.top g0) S.pick.2 _).1, S.pick.1, (Pl.wrote (Φ := Force.top g0) S.pick.2 _).2) = _
    rw [b1]
    rfl
  · have := hm.alike a1
    intro j g hj
    rw [b4] at hj
    exact this j g hj
theorem KInv.put (h : KInv S I K) (hh : S.hand < S.fs.length) (m : Nat) (hm : m < 10) (L : Int) (hL : 0 < L) (hKL : K ≤ L) :
    ∃ T : Pl Int, Pl.put (Φ := Force.top g0) S 10 (m : Int) (pg 7 L) L = (0, T) ∧ KInv T (I.set m L) L ∧ T.wr ≤ S.wr + 1 := by
  have hin : ¬ ((m : Int) < 0 ∨ ((10 : Nat) : Int) ≤ (m : Int) ∨ L < 1) := by omega
  have e0 : (I.set m L).getD m 0 = L := getD_set_self _ _ _ (by rw [h.li]; exact hm)
  have hI : ∀ q, q ≠ m → (I.set m L).getD q 0 = I.getD q 0 := fun q e => getD_set_ne _ _ _ _ (Ne.symm e)
  have hl : (I.set m L).length = 10 := by simp [h.li]
  have hc : cont ((I.set m L).getD m 0) = pg 7 L := by rw [e0]; exact cont_pos (by omega)
  cases hf : S.find (m : Int) with
  | some i =>
    obtain ⟨f, h1, h2, h3, h4, h5, h6⟩ := find_some hf
    refine ⟨_, put_some (Φ := Force.top g0) (pg 7 L) L hin hf h2, ?_, by simp⟩
    exact h.set i f h1 m hm (.inr ⟨h3, h4⟩) (fun j g hj hg hgh e => hj (h.inj j i g f hg h1 hgh h3 (by omega))) (f.changed (pg 7 L) L) (I.set m L) L S.hand S.wr ((changed_held _ _ _).trans h3) ((changed_page _ _ _).trans h4) (by rw [changed_bs, hc]) (fun _ => by rw [e0]; exact ⟨rfl, by show 1 ≤ L; omega⟩) (fun e => by rw [changed_dirty] at e; cases e) hI hl (by omega) hKL
  | none =>
    have hn := KInv.find_none hf
    obtain ⟨i, T, f, b1, b2, b3, b4, b5, b6⟩ := h.free (g0 := g0) hh
    refine ⟨_, put_none (Φ := Force.top g0) (pg 7 L) L hin hf b1, ?_, by simpa using b5⟩
    exact b2.set i f b3 m hm (.inl b4) (fun j g _ hg hgh => b6 _ hn j g hg hgh) ((Fm.fresh (m : Int)).changed (pg 7 L) L) (I.set m L) L T.hand T.wr rfl rfl (by rw [changed_bs, hc]) (fun _ => by rw [e0]; exact ⟨rfl, by show 1 ≤ L; omega⟩) (fun e => by rw [changed_dirty] at e; cases e) hI hl (by omega) hKL
theorem KInv.evict (h : KInv S I K) (m : Nat) (hm : m < 10) :
    ∃ T : Pl Int, Pl.evict (Φ := Force.top g0) S (m : Int) = (0, T) ∧ KInv T I K ∧ T.wr ≤ S.wr + 1 ∧ T.find (m : Int) = none := by
  cases hf : S.find (m : Int) with
  | none => exact ⟨S, evict_none (Φ := Force.top g0) hf, h, by omega, hf⟩
  | some i =>
    obtain ⟨f, h1, h2, h3, h4, h5, h6⟩ := find_some hf
    obtain ⟨T, b1, b2, b3, b4, b5⟩ := h.wrote (g0 := g0) i f h1
    refine ⟨_, evict_some (Φ := Force.top g0) hf h2 b1, ?_, b5, ?_⟩
    · rw [← b4]
      exact b2.drop i f (by rw [b4]; exact h1) b3 T.hand T.wr
    · refine find_nobody (fun j g hj hg e => ?_)
      rcases getEl_set h1 hj with ⟨_, rfl⟩ | ⟨e1, e2⟩
      · cases hg
      · exact e1 (h.inj j i g f e2 h1 hg h3 (by omega))
theorem KInv.get (h : KInv S I K) (hh : S.hand < S.fs.length) (m : Nat) (hm : m < 10) :
    ∃ T : Pl Int, Pl.get (Φ := Force.top g0) S 10 (m : Int) = (cont (I.getD m 0), 0, T) ∧ KInv T I K ∧ T.wr ≤ S.wr + 1 := by
  have hib := h.ib m
  cases hf : S.find (m : Int) with
  | some i =>
    obtain ⟨f, h1, h2, h3, h4, h5, h6⟩ := find_some hf
    obtain ⟨q, a1, a2, a3, a4, a5⟩ := h.he f h5 h3
    have : q = m := by omega
    subst this
    refine ⟨{ S with fs := S.fs.set i { f with asked := true } }, ?_, h.alike (core_set S.fs i f h1 true) rfl rfl, by simp⟩
    have hf' : Pl.find (σ := (Force.top g0).σ) S (q : Int) = some i := hf
    unfold Pl.get
    rw [hf']
    simp only [h2]
    rw [a3]
    rfl
  | none =>
    have hn := KInv.find_none hf
    obtain ⟨i, T, f, b1, b2, b3, b4, b5, b6⟩ := h.free (g0 := g0) hh
    have ho := h.out m hm hn
    have hoT := b2.out m hm (b6 _ hn)
    refine ⟨{ T with fs := T.fs.set i (Fm.read (m : Int) (cont (I.getD m 0))) }, ?_, ?_, by simpa using b5⟩
    · have hf' : Pl.find (σ := (Force.top g0).σ) S (m : Int) = none := hf
      have ho' : (show Pl (Force.top g0).σ from S).disk.getD m [] = cont (I.getD m 0) := ho
      unfold Pl.get
      rw [hf']
      simp only [b1]
      rw [if_neg (by omega), if_neg (by simp)]
      simp only [Int.toNat_natCast]
      rw [ho]
      rfl
    · exact b2.set i f b3 m hm (.inl b4) (fun j g _ hg hgh => b6 _ hn j g hg hgh) (Fm.read (m : Int) (cont (I.getD m 0))) I K T.hand T.wr rfl rfl rfl (fun e => by cases e) (fun _ => hoT) (fun _ _ => rfl) h.li hib (Int.le_refl _)
theorem KInv.made (m : Nat) : KInv (Pl.made m (List.replicate 10 (zerosN 512)) 0) [0, 0, 0, 0, 0, 0, 0, 0, 0, 0] 0 := by
  have hz : ∀ q, ([0, 0, 0, 0, 0, 0, 0, 0, 0, 0] : List Int).getD q 0 = 0 := fun q => by
    rw [show ([0, 0, 0, 0, 0, 0, 0, 0, 0, 0] : List Int) = List.replicate 10 0 from rfl, List.getD_eq_getElem?_getD, List.getElem?_replicate]
    split <;> rfl
  have hd : ∀ q, q < 10 → (Pl.made (σ := Int) m (List.replicate 10 (zerosN 512)) 0).disk.getD q [] = cont 0 := fun q hq => by
    show (List.replicate 10 (zerosN 512)).getD q [] = _
    rw [List.getD_eq_getElem?_getD, List.getElem?_replicate, if_pos hq]
    rfl
  have hf : ∀ f ∈ (Pl.made (σ := Int) m (List.replicate 10 (zerosN 512)) 0).fs, f = Fm.nil := fun f hf => (List.mem_replicate.1 hf).2
  refine ⟨by simp [Pl.made], rfl, fun q => by rw [hz q]; omega, ⟨Int.le_refl _, Int.le_refl _⟩, fun f h1 _ => by rw [hf f h1]; rfl, fun f h1 h2 => ?_, fun i j f g h1 h2 h3 => ?_, fun q hq _ => by rw [hz q, hd q hq], fun q hq => ⟨0, Int.le_refl _, Int.le_refl _, hd q hq⟩⟩
  · rw [hf f h1] at h2; cases h2
  · rw [hf f (List.mem_of_getElem? h1)] at h3; cases h3
end

/-! ### New, where frames are out of bounds -/
set_option maxHeartbeats 1000000 in
set_option maxRecDepth 100000 in
theorem newp_bad (q g : Nat) (cb : Array Value) (m : Int) (hm : m < 1 ∨ 64 < m) (w : World) :
    Calls Try.prog 8 #[.pointer (some ⟨q, 0, none⟩), .int .i64 m, .func (.func g) #[] cb] w fun e w' => e = .returned (.tuple #[.pointer none, .int .i64 1]) ∧ w' = w := by
  have q33 : ∀ W : World, (binOp .eql 33 (.func (.func g) #[] cb) .nilFunc).run Try.prog W = .ok (.bool false) W := fun W => by
    kernel_rfl
  by_cases h1 : m < 1
  · clear hm
    go_enter Try.func8, Try.ntmps8
    go_wp2
    go_ret2
    exact ⟨rfl, rfl⟩
  · have h2 : m > 64 := by omega
    clear hm
    go_enter Try.func8, Try.ntmps8
    go_wp2
    go_ret2
    exact ⟨rfl, rfl⟩
end Go.Proofs.Ytifoafiidplpiaa
