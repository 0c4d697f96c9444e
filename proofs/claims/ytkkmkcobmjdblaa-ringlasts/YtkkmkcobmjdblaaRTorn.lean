/- What a flush leaves on the device, also when it fails and whatever a crash keeps: the old stream, or the new one. -/
import Derived.Test.YtkkmkcobmjdblaaRPure
namespace Go.Proofs.Ytkkmkcobmjdblaa
open Go.RowKit
set_option linter.unusedVariables false
set_option linter.unusedSimpArgs false

theorem newest_wrote (D : Dv) (i j : Nat) (bs : List UInt8) : (D.wrote i bs).newest j = if i = j then bs else D.newest j := by
  unfold Dv.newest
  rw [wrote_W, wrote_L, List.reverse_append, List.reverse_singleton, List.singleton_append, List.find?_cons]
  by_cases e : i = j
  · subst e; simp
  · have : (i == j) = false := by simpa using e
    rw [if_neg e]
    simp [this]
theorem laid_getD (L : List (List UInt8)) (j : Nat) (hj : j < L.length) : ∀ V : List (Nat × List UInt8), (laidOver L V.reverse).getD j [] = match V.find? (fun x => x.1 == j) with | some x => x.2 | none => L.getD j []
  | [] => rfl
  | x :: r => by
    have ih := laid_getD L j hj r
    rw [List.reverse_cons, laidOver_snoc, List.find?_cons]
    by_cases e : x.1 = j
    · have h2 : j < (laidOver L r.reverse).length := by rw [length_laidOver]; exact hj
      subst e
      simp [h2]
    · have : (x.1 == j) = false := by simpa using e
      rw [this]
      simp only [List.getD_eq_getElem?_getD] at ih ⊢
      rw [List.getElem?_set_ne e]
      exact ih
theorem laid_newest (D : Dv) (j : Nat) (hj : j < D.L.length) : (laidOver D.L D.W).getD j [] = D.newest j := by
  have := laid_getD D.L j hj D.W.reverse
  rw [List.reverse_reverse] at this
  exact this
theorem plain_newest (D : Dv) (hW : D.W = []) (j : Nat) : D.newest j = D.L.getD j [] := by
  unfold Dv.newest
  rw [hW]
  rfl
theorem newest_synced (D : Dv) (j : Nat) (hj : j < D.L.length) : D.synced.newest j = D.newest j := by
  rw [plain_newest D.synced rfl]
  exact laid_newest D j hj
theorem newest_dead (D : Dv) (b : Bool) (j : Nat) : ({ D with dead := b } : Dv).newest j = D.newest j := rfl
/-- What is not in the cache outlasts a crash. -/
theorem crash_far (D : Dv) (ks : List Bool) (j : Nat) (hj : j < D.L.length) (h : ∀ x ∈ D.W, x.1 ≠ j) : (D.crashed ks).newest j = D.L.getD j [] := by
  rw [plain_newest _ rfl]
  show (laidOver D.L (kept D.W ks D.W.length)).getD j [] = _
  have key : ∀ (V : List (Nat × List UInt8)) (L : List (List UInt8)), (∀ x ∈ V, x.1 ≠ j) → (laidOver L V).getD j [] = L.getD j [] := by
    intro V
    induction V with
    | nil => intro L _; rfl
    | cons x r ih =>
      intro L hx
      show (laidOver (L.set x.1 x.2) r).getD j [] = _
      rw [ih _ (fun y hy => hx y (by simp [hy]))]
      simp only [List.getD_eq_getElem?_getD]
      rw [List.getElem?_set_ne (hx x (by simp))]
  refine key _ _ (fun x hx => ?_)
  unfold kept at hx
  obtain ⟨i, _, hi⟩ := List.mem_filterMap.1 hx
  split at hi
  · exact h x (List.mem_of_getElem? hi)
  · cases hi
/-- One write in the cache: it is kept, or not. -/
theorem crash_one (D : Dv) (ks : List Bool) (i : Nat) (bs : List UInt8) (hW : D.W = [(i, bs)]) (hi : i < D.L.length) : (∀ j, j < D.L.length → (D.crashed ks).newest j = D.L.getD j []) ∨ (∀ j, j < D.L.length → (D.crashed ks).newest j = if i = j then bs else D.L.getD j []) := by
  have e : (D.crashed ks).L = laidOver D.L (kept D.W ks D.W.length) := rfl
  cases hk : ks.getD 0 false with
  | false =>
    left
    intro j hj
    rw [plain_newest _ rfl, e, hW]
    have : kept [(i, bs)] ks 1 = kept [(i, bs)] ks 0 := kept_no _ ks 0 hk
    show (laidOver D.L (kept [(i, bs)] ks 1)).getD j [] = _
    rw [this]
    rfl
  | true =>
    right
    intro j hj
    rw [plain_newest _ rfl, e, hW]
    have : kept [(i, bs)] ks 1 = kept [(i, bs)] ks 0 ++ [(i, bs)] := kept_yes _ ks 0 (by simp) hk
    show (laidOver D.L (kept [(i, bs)] ks 1)).getD j [] = _
    rw [this]
    show (D.L.set i bs).getD j [] = _
    by_cases ej : i = j
    · subst ej
      simp [hi]
    · simp only [List.getD_eq_getElem?_getD]
      rw [List.getElem?_set_ne ej, if_neg ej]

/-- The places of the stream's sectors a to b. -/
def Rg.at (R : Rg) (a b j : Nat) : Prop := ∃ s, a ≤ s ∧ s ≤ b ∧ j = R.place s
structure OldDev (R : Rg) (D C : Dv) (f l : Nat) : Prop where
  len : C.L.length = D.L.length
  same : ∀ j, j < D.L.length → ¬ R.at (f + 1) (l + 1) j → C.newest j = D.newest j
structure NewDev (R : Rg) (D C : Dv) (f l : Nat) : Prop where
  len : C.L.length = D.L.length
  same : ∀ j, j < D.L.length → ¬ R.at f (l + 1) j → C.newest j = D.newest j
  img : ∀ s, f ≤ s → s ≤ l → ∃ X : List UInt8, X.length = 128 ∧ C.newest (R.place s) = R.img s X
  nought : C.newest (R.place (l + 1)) = zerosN 128
theorem place_inj {R : Rg} (h : 0 < R.n) {s t : Nat} (hst : R.place s = R.place t) (h1 : s ≤ t) (h2 : t < s + R.n) : s = t := by
  unfold Rg.place at hst
  have e : s % R.n = t % R.n := by omega
  have d1 := Nat.div_add_mod s R.n
  have d2 := Nat.div_add_mod t R.n
  rw [e] at d1
  obtain ⟨x, hx⟩ : ∃ x, s / R.n = x := ⟨_, rfl⟩
  obtain ⟨y, hy⟩ : ∃ y, t / R.n = y := ⟨_, rfl⟩
  rw [hx] at d1
  rw [hy] at d2
  rcases Nat.lt_or_ge x y with hxy | hxy
  · obtain ⟨k, rfl⟩ : ∃ k, y = x + 1 + k := ⟨y - x - 1, by omega⟩
    rw [Nat.mul_add, Nat.mul_add, Nat.mul_one] at d2
    have : 0 ≤ R.n * k := Nat.zero_le _
    omega
  · have hm := Nat.mul_le_mul_left R.n hxy
    omega

/-- The first phase: in the cache alone, at the places of the sectors behind the first. -/
structure Phase (R : Rg) (D E : Dv) (f l : Nat) : Prop where
  wf : E.wf
  L : E.L = D.L
  W : ∀ x ∈ E.W, R.at (f + 1) (l + 1) x.1
theorem Phase.dead {R : Rg} {D E : Dv} {f l : Nat} (h : Phase R D E f l) : Phase R D { E with dead := true } f l := ⟨⟨h.wf.pos, h.wf.max, h.wf.sec, h.wf.ent, h.wf.lo, h.wf.hi⟩, h.L, h.W⟩
theorem Phase.crash {R : Rg} {D E : Dv} {f l : Nat} (h : Phase R D E f l) (hW : D.W = []) (ks : List Bool) : OldDev R D (E.crashed ks) f l := by
  refine ⟨?_, fun j hj hn => ?_⟩
  · show (laidOver E.L _).length = _
    rw [length_laidOver, h.L]
  · rw [crash_far E ks j (by rw [h.L]; exact hj) (fun x hx e => hn (e ▸ h.W x hx)), h.L, plain_newest D hW]
theorem Phase.wrote {R : Rg} {D E : Dv} {f l : Nat} (h : Phase R D E f l) (s : Nat) (bs : List UInt8) (h1 : f + 1 ≤ s) (h2 : s ≤ l + 1) (hpl : R.place s < E.L.length) (hb : bs.length = 128) : Phase R D (E.wrote (R.place s) bs) f l := by
  refine ⟨wf_wrote h.wf _ _ hpl hb, h.L, fun x hx => ?_⟩
  rcases List.mem_append.1 hx with hx | hx
  · exact h.W x hx
  · simp at hx
    rw [hx]
    exact ⟨s, h1, h2, rfl⟩
theorem phase_putN {R : Rg} (hw : R.wf) {D : Dv} (f l : Nat) (hn : R.fr + R.n ≤ D.L.length) (hln : l + 1 < f + R.n) (hp : ∀ t, f ≤ t → t ≤ l → R.puts t) : ∀ (k s : Nat) (E : Dv), s + k = l + 1 → f + 1 ≤ s → E.dead = false → Phase R D E f l → (∀ t, f + 1 ≤ t → t < s → ∃ X : List UInt8, X.length = 128 ∧ E.newest (R.place t) = R.img t X) → (∀ j, ¬ R.at (f + 1) l j → E.newest j = D.newest j) →
    Phase R D (R.putN s k E).2 f l ∧ ((R.putN s k E).1 = 0 → (R.putN s k E).2.dead = false ∧ (∀ t, f + 1 ≤ t → t ≤ l → ∃ X : List UInt8, X.length = 128 ∧ (R.putN s k E).2.newest (R.place t) = R.img t X) ∧ (∀ j, ¬ R.at (f + 1) l j → (R.putN s k E).2.newest j = D.newest j))
  | 0, s, E, hs, hf, hd, hP, hI, hS => ⟨hP, fun _ => ⟨hd, fun t h1 h2 => hI t h1 (by omega), hS⟩⟩
  | k + 1, s, E, hs, hf, hd, hP, hI, hS => by
    have hpl : R.place s < E.L.length := Rg.place_lt hw E (by rw [hP.L]; exact hn) s
    have hX := length_newest E hP.wf _ hpl
    have hput := hp s (by omega) (by omega)
    have e := Rg.live_put1 hw hP.wf hd (by rw [hP.L]; exact hn) s hput
    have e0 : R.putN s (k + 1) E = (if (R.put1 E s).1 ≠ 0 then R.put1 E s else R.putN (s + 1) k (R.put1 E s).2) := rfl
    by_cases hfu : E.fuse = 0
    · rw [if_pos hfu] at e
      rw [e0, e, if_pos (by simp)]
      exact ⟨hP.dead, fun h => by simp at h⟩
    · rw [if_neg hfu] at e
      rw [e0, e, if_neg (by simp)]
      refine phase_putN hw f l hn hln hp k (s + 1) _ (by omega) (by omega) hd (hP.wrote s _ hf (by omega) hpl (Rg.length_img hput hX)) (fun t h1 h2 => ?_) (fun j hj => ?_)
      · rw [newest_wrote]
        by_cases et : R.place s = R.place t
        · have : t = s := place_inj (by have := hw.two; omega) et.symm (by omega) (by omega)
          subst this
          rw [if_pos rfl]
          exact ⟨_, hX, rfl⟩
        · rw [if_neg et]
          refine hI t h1 ?_
          rcases Nat.lt_or_ge t s with h3 | h3
          · exact h3
          · have : t = s := by omega
            exact absurd (by rw [this]) et
      · rw [newest_wrote, if_neg (fun e => hj ⟨s, hf, by omega, e.symm⟩)]
        exact hS j hj

theorem write_W (D : Dv) (i : Int) (bs : List UInt8) : (D.write i bs).2.W.length ≤ D.W.length + 1 := by
  unfold Dv.write
  split
  · exact Nat.le_succ _
  · split
    · exact Nat.le_succ _
    · split
      · exact Nat.le_succ _
      · show (D.W ++ _).length ≤ _
        simp
theorem sync_W (D : Dv) : D.sync.2.W.length ≤ D.W.length := by
  unfold Dv.sync
  split
  · exact Nat.le_refl _
  · split
    · exact Nat.le_refl _
    · exact Nat.zero_le _
theorem putN_W (R : Rg) : ∀ (k s : Nat) (D : Dv), (R.putN s k D).2.W.length ≤ D.W.length + k
  | 0, s, D => Nat.le_refl _
  | k + 1, s, D => by
    have h1 := write_W D (R.place s : Nat) (R.img s (D.newest (R.place s)))
    have h2 := putN_W R k (s + 1) (R.put1 D s).2
    show (if (R.put1 D s).1 ≠ 0 then R.put1 D s else R.putN (s + 1) k (R.put1 D s).2).2.W.length ≤ _
    have h3 : (R.put1 D s).2.W.length ≤ D.W.length + 1 := h1
    split
    · omega
    · omega
theorem layD_W (R : Rg) (D : Dv) (f l : Nat) : (R.layD D f l).2.W.length ≤ D.W.length + (l - f) + 2 := by
  have a1 := putN_W R (l - f) (f + 1) D
  unfold Rg.layD
  split
  · omega
  · generalize (R.putN (f + 1) (l - f) D).2 = E at *
    unfold Rg.lay1
    have a2 := write_W E (R.place (l + 1) : Nat) (zerosN 128)
    split
    · omega
    · generalize (E.write (R.place (l + 1) : Nat) (zerosN 128)).2 = E1 at *
      unfold Rg.lay2
      have a3 := sync_W E1
      split
      · omega
      · generalize E1.sync.2 = E2 at *
        unfold Rg.lay3
        have a4 : (R.put1 E2 f).2.W.length ≤ E2.W.length + 1 := write_W _ _ _
        split
        · omega
        · have a5 := sync_W (R.put1 E2 f).2
          omega

theorem zeros_eq : zerosN 128 = zeros := rfl

theorem lay_torn {R : Rg} (hw : R.wf) {D : Dv} (hD : D.wf) (hd : D.dead = false) (hW : D.W = []) (f l : Nat) (hfl : f ≤ l) (hn : R.fr + R.n ≤ D.L.length) (hln : l + 1 < f + R.n) (hp : ∀ t, f ≤ t → t ≤ l → R.puts t) :
    (∀ ks, OldDev R D ((R.layD D f l).2.crashed ks) f l ∨ NewDev R D ((R.layD D f l).2.crashed ks) f l) ∧
    ((R.layD D f l).1 = 0 → NewDev R D (R.layD D f l).2 f l ∧ ∀ ks, NewDev R D ((R.layD D f l).2.crashed ks) f l) := by
  have hn0 : 0 < R.n := by have := hw.two; omega
  obtain ⟨hP, hS⟩ := phase_putN hw f l hn hln hp (l - f) (f + 1) D (by omega) (Nat.le_refl _) hd ⟨hD, rfl, fun x hx => by rw [hW] at hx; cases hx⟩ (fun t h1 h2 => by omega) (fun j _ => rfl)
  by_cases hA : (R.putN (f + 1) (l - f) D).1 = 0
  · obtain ⟨hd1, hi1, hs1⟩ := hS hA
    have e0 : R.layD D f l = R.lay1 (R.putN (f + 1) (l - f) D).2 f l := by unfold Rg.layD; rw [hA, if_neg (by simp)]
    rw [e0]
    generalize (R.putN (f + 1) (l - f) D).2 = E at *
    clear hA e0 hS
    have hpl : R.place (l + 1) < E.L.length := Rg.place_lt hw E (by rw [hP.L]; exact hn) (l + 1)
    have hlw := live_write E _ (zerosN 128) hd1 hpl (length_zerosN 128)
    by_cases hf1 : E.fuse = 0
    · rw [if_pos hf1] at hlw
      have e1 : R.lay1 E f l = (50, { E with dead := true }) := by unfold Rg.lay1; rw [hlw, if_pos (by simp)]
      rw [e1]
      exact ⟨fun ks => .inl (hP.dead.crash hW ks), fun h => by simp at h⟩
    · rw [if_neg hf1] at hlw
      have e1 : R.lay1 E f l = R.lay2 (E.wrote (R.place (l + 1)) (zerosN 128)) f := by unfold Rg.lay1; rw [hlw, if_neg (by simp)]
      rw [e1]
      have hP1 := hP.wrote (l + 1) (zerosN 128) (by omega) (Nat.le_refl _) hpl (length_zerosN 128)
      have hi2 : ∀ t, f + 1 ≤ t → t ≤ l → ∃ X : List UInt8, X.length = 128 ∧ (E.wrote (R.place (l + 1)) (zerosN 128)).newest (R.place t) = R.img t X := fun t h1 h2 => by
        rw [newest_wrote, if_neg (fun e => by have := place_inj hn0 e.symm (by omega) (by omega); omega)]
        exact hi1 t h1 h2
      have hz2 : (E.wrote (R.place (l + 1)) (zerosN 128)).newest (R.place (l + 1)) = zerosN 128 := by rw [newest_wrote, if_pos rfl]
      have hs2 : ∀ j, ¬ R.at (f + 1) (l + 1) j → (E.wrote (R.place (l + 1)) (zerosN 128)).newest j = D.newest j := fun j hj => by
        rw [newest_wrote, if_neg (fun e => hj ⟨l + 1, by omega, Nat.le_refl _, e.symm⟩)]
        exact hs1 j (fun ⟨s, a, b, c⟩ => hj ⟨s, a, by omega, c⟩)
      have hd2 : (E.wrote (R.place (l + 1)) (zerosN 128)).dead = false := hd1
      generalize E.wrote (R.place (l + 1)) (zerosN 128) = E1 at *
      clear hP hd1 hi1 hs1 hpl hlw hf1 e1 E
      have hls := live_sync E1 hd2
      by_cases hf2 : E1.fuse = 0
      · rw [if_pos hf2] at hls
        have e2 : R.lay2 E1 f = (50, { E1 with dead := true }) := by unfold Rg.lay2; rw [hls, if_pos (by simp)]
        rw [e2]
        exact ⟨fun ks => .inl (hP1.dead.crash hW ks), fun h => by simp at h⟩
      · rw [if_neg hf2] at hls
        have e2 : R.lay2 E1 f = R.lay3 E1.synced f := by unfold Rg.lay2; rw [hls, if_neg (by simp)]
        rw [e2]
        have hL2 : E1.synced.L.length = D.L.length := by show (laidOver _ _).length = _; rw [length_laidOver, hP1.L]
        have hN2 : ∀ j, j < D.L.length → E1.synced.newest j = E1.newest j := fun j hj => newest_synced E1 j (by rw [hP1.L]; exact hj)
        have hw2 := wf_synced hP1.wf
        have hW2 : E1.synced.W = [] := rfl
        have hd3 : E1.synced.dead = false := hd2
        generalize E1.synced = E2 at *
        have hplt : ∀ s, R.place s < D.L.length := fun s => Rg.place_lt hw D hn s
        have hpf : R.place f < E2.L.length := by rw [hL2]; exact hplt f
        have hX := length_newest E2 hw2 _ hpf
        have hput := hp f (Nat.le_refl _) hfl
        have hl3 := Rg.live_put1 hw hw2 hd3 (by rw [hL2]; exact hn) f hput
        have oldOf : ∀ C : Dv, C.L.length = D.L.length → (∀ j, j < D.L.length → C.newest j = E2.newest j) → OldDev R D C f l := fun C h1 h2 => ⟨h1, fun j hj hna => by rw [h2 j hj, hN2 j hj]; exact hs2 j hna⟩
        have newOf : ∀ C : Dv, C.L.length = D.L.length → (∀ j, j < D.L.length → C.newest j = if R.place f = j then R.img f (E2.newest (R.place f)) else E2.newest j) → NewDev R D C f l := fun C h1 h2 => by
          refine ⟨h1, fun j hj hna => ?_, fun s h3 h4 => ?_, ?_⟩
          · rw [h2 j hj, if_neg (fun e => hna ⟨f, Nat.le_refl _, by omega, e.symm⟩), hN2 j hj]
            exact hs2 j (fun ⟨s, a, b, c⟩ => hna ⟨s, by omega, b, c⟩)
          · rw [h2 _ (hplt s)]
            by_cases es : s = f
            · subst es
              rw [if_pos rfl]
              exact ⟨_, hX, rfl⟩
            · rw [if_neg (fun e => es (place_inj hn0 e (by omega) (by omega)).symm), hN2 _ (hplt s)]
              exact hi2 s (by omega) h4
          · rw [h2 _ (hplt _), if_neg (fun e => by have := place_inj hn0 e (by omega) (by omega); omega), hN2 _ (hplt _)]
            exact hz2
        clear hls hf2 e2 hi2 hz2 hs2 hN2
        by_cases hf3 : E2.fuse = 0
        · rw [if_pos hf3] at hl3
          have e3 : R.lay3 E2 f = (50, { E2 with dead := true }) := by unfold Rg.lay3; rw [hl3, if_pos (by simp)]
          rw [e3]
          refine ⟨fun ks => .inl (oldOf _ ?_ (fun j hj => ?_)), fun h => by simp at h⟩
          · show (laidOver E2.L _).length = _
            rw [length_laidOver, hL2]
          · rw [crash_far _ ks j (by show j < E2.L.length; rw [hL2]; exact hj) (fun x hx => by
              have hx : x ∈ E2.W := hx
              rw [hW2] at hx
              cases hx), plain_newest E2 hW2]
        · rw [if_neg hf3] at hl3
          have e3 : R.lay3 E2 f = (E2.wrote (R.place f) (R.img f (E2.newest (R.place f)))).sync := by unfold Rg.lay3; rw [hl3, if_neg (by simp)]
          rw [e3]
          have hW3 : (E2.wrote (R.place f) (R.img f (E2.newest (R.place f)))).W = [(R.place f, R.img f (E2.newest (R.place f)))] := by rw [wrote_W, hW2]; rfl
          have hN3 : ∀ j, (E2.wrote (R.place f) (R.img f (E2.newest (R.place f)))).newest j = if R.place f = j then R.img f (E2.newest (R.place f)) else E2.newest j := fun j => newest_wrote _ _ _ _
          have hL3 : (E2.wrote (R.place f) (R.img f (E2.newest (R.place f)))).L = E2.L := rfl
          have hd4 : (E2.wrote (R.place f) (R.img f (E2.newest (R.place f)))).dead = false := hd3
          generalize E2.wrote (R.place f) (R.img f (E2.newest (R.place f))) = E3 at *
          have hls3 := live_sync E3 hd4
          by_cases hf4 : E3.fuse = 0
          · rw [if_pos hf4] at hls3
            rw [hls3]
            refine ⟨fun ks => ?_, fun h => by simp at h⟩
            have hLl : (({ E3 with dead := true } : Dv).crashed ks).L.length = D.L.length := by
              show (laidOver E3.L _).length = _
              rw [length_laidOver, hL3, hL2]
            rcases crash_one { E3 with dead := true } ks (R.place f) _ hW3 (by show _ < E3.L.length; rw [hL3]; exact hpf) with h1 | h1
            · refine .inl (oldOf _ hLl (fun j hj => ?_))
              rw [h1 j (by show j < E3.L.length; rw [hL3, hL2]; exact hj), plain_newest E2 hW2]
              show E3.L.getD j [] = _
              rw [hL3]
            · refine .inr (newOf _ hLl (fun j hj => ?_))
              rw [h1 j (by show j < E3.L.length; rw [hL3, hL2]; exact hj), plain_newest E2 hW2 j]
              show (if R.place f = j then _ else E3.L.getD j []) = _
              rw [hL3]
          · rw [if_neg hf4] at hls3
            rw [hls3]
            have hLs : E3.synced.L.length = D.L.length := by show (laidOver _ _).length = _; rw [length_laidOver, hL3, hL2]
            have hNs : ∀ j, j < D.L.length → E3.synced.newest j = E3.newest j := fun j hj => newest_synced E3 j (by rw [hL3, hL2]; exact hj)
            have hcr : ∀ ks, NewDev R D (E3.synced.crashed ks) f l := fun ks => by
              refine newOf _ ?_ (fun j hj => ?_)
              · show (laidOver E3.synced.L _).length = _
                rw [length_laidOver, hLs]
              · rw [crash_far _ ks j (by rw [hLs]; exact hj) (fun x hx => absurd hx List.not_mem_nil), ← plain_newest E3.synced rfl, hNs j hj, hN3]
            exact ⟨fun ks => .inr (hcr ks), fun _ => ⟨newOf _ hLs (fun j hj => by rw [hNs j hj, hN3]), hcr⟩⟩
  · have e0 : R.layD D f l = R.putN (f + 1) (l - f) D := by unfold Rg.layD; rw [if_pos hA]
    rw [e0]
    exact ⟨fun ks => .inl (hP.crash hW ks), fun h => absurd h hA⟩
end Go.Proofs.Ytkkmkcobmjdblaa
