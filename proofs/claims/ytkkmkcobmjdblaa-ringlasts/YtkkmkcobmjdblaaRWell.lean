/- A device without a fuse: every flush goes well. The law of awake. -/
import Derived.Test.YtkkmkcobmjdblaaROpen
namespace Go.Proofs.Ytkkmkcobmjdblaa
open Go.RowKit
set_option linter.unusedVariables false
set_option linter.unusedSimpArgs false

theorem wf_laid {D : Dv} (h : D.wf) (W : List (Nat × List UInt8)) (hW : ∀ x ∈ W, x.1 < D.L.length ∧ x.2.length = 128) : ∀ s ∈ laidOver D.L W, s.length = 128 := by
  have key : ∀ (W : List (Nat × List UInt8)) (L : List (List UInt8)), (∀ x ∈ W, x.2.length = 128) → (∀ s ∈ L, s.length = 128) → ∀ s ∈ laidOver L W, s.length = 128 := by
    intro W
    induction W with
    | nil => intro L _ h; exact h
    | cons x r ih =>
      intro L hx hL
      show ∀ s ∈ laidOver (L.set x.1 x.2) r, s.length = 128
      refine ih _ (fun y hy => hx y (by simp [hy])) (fun s hs => ?_)
      rcases List.mem_or_eq_of_mem_set hs with h1 | h1
      · exact hL s h1
      · rw [h1]; exact hx x (by simp)
  exact key W D.L (fun x hx => (hW x hx).2) h.sec
theorem wf_burnt {D : Dv} (h : D.wf) : -9223372036854775808 ≤ D.burnt.fuse ∧ D.burnt.fuse ≤ 9223372036854775807 := by
  have h1 := h.lo
  have h2 := h.hi
  unfold Dv.burnt
  simp only
  split <;> omega
theorem wf_wrote {D : Dv} (h : D.wf) (i : Nat) (bs : List UInt8) (hi : i < D.L.length) (hb : bs.length = 128) : (D.wrote i bs).wf := by
  refine ⟨h.pos, h.max, h.sec, fun x hx => ?_, (wf_burnt h).1, (wf_burnt h).2⟩
  rcases List.mem_append.1 hx with h1 | h1
  · exact h.ent x h1
  · simp at h1
    rw [h1]
    exact ⟨hi, hb⟩
theorem wf_synced {D : Dv} (h : D.wf) : D.synced.wf := by
  have hl : D.synced.L.length = D.L.length := length_laidOver _ _
  refine ⟨by rw [hl]; exact h.pos, by rw [hl]; exact h.max, wf_laid h D.W h.ent, fun x hx => absurd hx List.not_mem_nil, (wf_burnt h).1, (wf_burnt h).2⟩
/-- Well: not dead, without a fuse. -/
structure Dv.well (D : Dv) : Prop where
  wf : D.wf
  live : D.dead = false
  fuse : D.fuse < 0
theorem well_wrote {D : Dv} (h : D.well) (i : Nat) (bs : List UInt8) (hi : i < D.L.length) (hb : bs.length = 128) : (D.wrote i bs).well :=
  ⟨wf_wrote h.wf i bs hi hb, h.live, by
    show (if 0 < D.fuse then D.fuse - 1 else D.fuse) < 0
    have := h.fuse
    rw [if_neg (by omega)]; exact this⟩
theorem well_synced {D : Dv} (h : D.well) : D.synced.well :=
  ⟨wf_synced h.wf, h.live, by
    show (if 0 < D.fuse then D.fuse - 1 else D.fuse) < 0
    have := h.fuse
    rw [if_neg (by omega)]; exact this⟩
theorem well_put1 {R : Rg} (hw : R.wf) {D : Dv} (h : D.well) (hn : R.fr + R.n ≤ D.L.length) (s : Nat) (hp : R.puts s) :
    R.put1 D s = (0, D.wrote (R.place s) (R.img s (D.newest (R.place s)))) ∧ (D.wrote (R.place s) (R.img s (D.newest (R.place s)))).well := by
  have hpl := Rg.place_lt hw D hn s
  refine ⟨?_, well_wrote h _ _ hpl (Rg.length_img hp (length_newest D h.wf _ hpl))⟩
  rw [Rg.live_put1 hw h.wf h.live hn s hp, if_neg (by have := h.fuse; omega)]
theorem well_putN {R : Rg} (hw : R.wf) (n0 : Nat) (hn : R.fr + R.n ≤ n0) : ∀ (k s : Nat) (D : Dv), D.well → D.L.length = n0 → (∀ t, s ≤ t → t < s + k → R.puts t) → (R.putN s k D).1 = 0 ∧ (R.putN s k D).2.well ∧ (R.putN s k D).2.L = D.L
  | 0, s, D, h, _, _ => ⟨rfl, h, rfl⟩
  | k + 1, s, D, h, hl, hp => by
    obtain ⟨e, hw2⟩ := well_put1 hw h (by rw [hl]; exact hn) s (hp s (by omega) (by omega))
    have e1 : R.putN s (k + 1) D = R.putN (s + 1) k (D.wrote (R.place s) (R.img s (D.newest (R.place s)))) := by
      show (if (R.put1 D s).1 ≠ 0 then R.put1 D s else R.putN (s + 1) k (R.put1 D s).2) = _
      rw [e, if_neg (by simp)]
    obtain ⟨r1, r2, r3⟩ := well_putN hw n0 hn k (s + 1) _ hw2 hl (fun t h1 h2 => hp t (by omega) (by omega))
    rw [e1]
    exact ⟨r1, r2, r3⟩
theorem well_layD {R : Rg} (hw : R.wf) {D : Dv} (h : D.well) (hn : R.fr + R.n ≤ D.L.length) (f l : Nat) (hfl : f ≤ l) (hp1 : R.start ≤ f * 118 + 117) (hp2 : l * 118 < R.tail) :
    (R.layD D f l).1 = 0 ∧ (R.layD D f l).2.well ∧ (R.layD D f l).2.L.length = D.L.length ∧ (R.layD D f l).2.W = [] := by
  obtain ⟨a1, a2, a3⟩ := well_putN hw D.L.length hn (l - f) (f + 1) D h rfl (fun t h1 h2 => ⟨by omega, by omega⟩)
  obtain ⟨E, hE⟩ : ∃ E, (R.putN (f + 1) (l - f) D).2 = E := ⟨_, rfl⟩
  rw [hE] at a2 a3
  have b0 : R.layD D f l = R.lay1 E f l := by unfold Rg.layD; rw [a1, if_neg (by simp), hE]
  have hpl : R.place (l + 1) < E.L.length := Rg.place_lt hw E (by rw [a3]; exact hn) (l + 1)
  have b1 : R.lay1 E f l = R.lay2 (E.wrote (R.place (l + 1)) (zerosN 128)) f := by
    unfold Rg.lay1
    rw [live_write E _ _ a2.live hpl (length_zerosN 128), if_neg (show ¬ E.fuse = 0 by have := a2.fuse; omega), if_neg (by simp)]
  have w1 := well_wrote a2 _ (zerosN 128) hpl (length_zerosN 128)
  obtain ⟨E1, hE1⟩ : ∃ E1, E.wrote (R.place (l + 1)) (zerosN 128) = E1 := ⟨_, rfl⟩
  have l1 : E1.L = D.L := by rw [← hE1]; exact a3
  rw [hE1] at b1 w1
  have b2 : R.lay2 E1 f = R.lay3 E1.synced f := by
    unfold Rg.lay2
    rw [live_sync E1 w1.live, if_neg (show ¬ E1.fuse = 0 by have := w1.fuse; omega), if_neg (by simp)]
  have w2 := well_synced w1
  have l2 : E1.synced.L.length = D.L.length := by
    show (laidOver _ _).length = _
    rw [length_laidOver, l1]
  obtain ⟨e3, w3⟩ := well_put1 hw w2 (by rw [l2]; exact hn) f ⟨hp1, by omega⟩
  have b3 : R.lay3 E1.synced f = (0, (E1.synced.wrote (R.place f) (R.img f (E1.synced.newest (R.place f)))).synced) := by
    unfold Rg.lay3
    rw [e3, if_neg (by simp), live_sync _ w3.live, if_neg (by have := w3.fuse; omega)]
  rw [b0, b1, b2, b3]
  refine ⟨rfl, well_synced w3, ?_, rfl⟩
  show (laidOver _ _).length = _
  rw [length_laidOver]
  exact l2
theorem well_flush {R : Rg} (hw : R.wf) {D : Dv} (h : D.well) (hn : R.fr + R.n ≤ D.L.length) (he : R.fin ≠ R.tail) :
    (R.flushD D).1 = 0 ∧ (R.flushD D).2.well ∧ (R.flushD D).2.L.length = D.L.length ∧ (R.flushD D).2.W = [] := by
  have h1 := hw.lo
  have h2 := hw.hi
  exact well_layD hw h hn _ _ (by omega) (by omega) (by omega)

/-- Flush on a device that is well. -/
theorem flush_well {w : World} {q p : Nat} {gp fp : List Nat} {R : Rg} {D : Dv} (h : RgAt w q p gp R) (hD : DevC w p fp D) (hdis : ∀ k ∈ gp, k ∉ fp) (hw : D.well) (hn : R.fr + R.n ≤ D.L.length) (hm : D.W = []) (hf : R.failed = false) :
    Calls Try.prog 14 #[.pointer (some ⟨q, 0, none⟩)] w fun e w' => e = .returned (.int .i64 0) ∧
      ∃ fp' D', RgAt w' q p gp { R with fin := R.tail } ∧ DevC w' p fp' D' ∧ D'.well ∧ D'.L.length = D.L.length ∧ D'.W = [] ∧ (D' = D ∨ D' = (R.flushD D).2) ∧ (R.fin ≠ R.tail → D' = (R.flushD D).2) ∧ (R.fin = R.tail → D' = D) ∧ Off (gp ++ fp) w w' ∧ (∀ k ∈ fp', k ∈ fp ∨ w.heap.size ≤ k) := by
  by_cases he : R.fin = R.tail
  · refine (flush_nothing h hf he).mono ?_
    rintro e w' ⟨rfl, m, rfl⟩
    have e1 : ({ R with fin := R.tail } : Rg) = R := by rw [← he]
    refine ⟨rfl, fp, D, by rw [e1]; exact h.drewN m, hD.drewN m, hw, rfl, hm, .inl rfl, fun hne => absurd he hne, fun _ => rfl, (Off.refl _ _).drewN m, fun k hk => .inl hk⟩
  · obtain ⟨a1, a2, a3, a4⟩ := well_flush h.wf hw hn he
    refine (flush_lays h hD hdis hw.live hn (by rw [hm]; simp) hf he).mono ?_
    rintro e w' ⟨rfl, fp', h1, h2, h3, h4⟩
    rw [a1] at h1 ⊢
    rw [if_pos rfl] at h1
    exact ⟨rfl, fp', _, h1, h2, a2, a3, a4, .inr rfl, fun _ => rfl, fun hx => absurd hx he, h3, h4⟩
theorem fresh_well (n : Nat) (h1 : 1 ≤ n) (h2 : n ≤ 8192) : (Dv.fresh n).well :=
  ⟨⟨by simpa [Dv.fresh] using h1, by simpa [Dv.fresh] using h2, fun s hs => by
    obtain ⟨_, rfl⟩ := List.mem_replicate.1 hs
    exact length_zeros, fun x hx => by simp [Dv.fresh] at hx, by simp [Dv.fresh], by simp [Dv.fresh]⟩, rfl, by simp [Dv.fresh]⟩
theorem fresh_newest (n i : Nat) (hi : i < n) : (Dv.fresh n).newest i = zeros := by
  simp [Dv.newest, Dv.fresh, hi]
theorem zeros_absent (s skip : Nat) : got zeros s skip = [] := by
  unfold got
  rw [if_neg]
  intro h
  have h1 := h.1
  have : beval (zeros.take 8) = 0 := by decide
  omega
theorem fresh_found (N fr n start : Nat) (h2 : 2 ≤ n) (hn : fr + n ≤ N) : found (Dv.fresh N) fr n start = [] := by
  unfold found
  obtain ⟨k, rfl⟩ : ∃ k, n = k + 1 := ⟨n - 1, by omega⟩
  unfold scan
  have hr : (Dv.fresh N).newest (fr + start / 118 % (k + 1)) = zeros := fresh_newest N _ (by have := Nat.mod_lt (start / 118) (show k + 1 > 0 by omega); omega)
  rw [hr, zeros_absent, if_pos (by have := Nat.mod_lt start (show 118 > 0 by omega); simp; omega)]
end Go.Proofs.Ytkkmkcobmjdblaa
