/- What a crash leaves of a write: the page is the old or the new one, whole. Without the program. -/
import Derived.Test.YtkdlggobbkedmaaFPage
namespace Go.Proofs.Ytkdlggobbkedmaa
open Go.RowKit
set_option linter.unusedVariables false
set_option linter.unusedSimpArgs false

theorem beval_be8 (v : Nat) (h : v < 18446744073709551616) : beval (be8 v) = v := by
  have e : be8 v = [UInt8.ofNat (v / 72057594037927936 % 256), UInt8.ofNat (v / 281474976710656 % 256), UInt8.ofNat (v / 1099511627776 % 256), UInt8.ofNat (v / 4294967296 % 256), UInt8.ofNat (v / 16777216 % 256), UInt8.ofNat (v / 65536 % 256), UInt8.ofNat (v / 256 % 256), UInt8.ofNat (v % 256)] := by
    simp [be8, List.range, List.range.loop]
  rw [e]
  simp only [beval, List.foldl_cons, List.foldl_nil, UInt8.toNat_ofNat', Nat.mod_mod]
  omega
theorem beval_head (v : Nat) (h : v < 18446744073709551616) : beval ((headOf v).take 8) = v := by
  unfold headOf
  rw [List.take_append_of_le_length (by rw [length_be8]; omega), List.take_of_length_le (by rw [length_be8]; omega), beval_be8 v h]

/-! ### What a crash leaves of a sector -/
theorem laid_or : ∀ (V : List (Nat × List UInt8)) (L : List (List UInt8)) (j : Nat), (laidOver L V).getD j [] = L.getD j [] ∨ ∃ x ∈ V, x.1 = j ∧ (laidOver L V).getD j [] = x.2
  | [], L, j => .inl rfl
  | x :: r, L, j => by
    show (laidOver (L.set x.1 x.2) r).getD j [] = _ ∨ ∃ y ∈ x :: r, y.1 = j ∧ (laidOver (L.set x.1 x.2) r).getD j [] = y.2
    rcases laid_or r (L.set x.1 x.2) j with h | ⟨y, hy, h1, h2⟩
    · rw [h]
      by_cases e : x.1 = j
      · by_cases hl : j < L.length
        · right
          refine ⟨x, by simp, e, ?_⟩
          rw [e]
          simp [hl]
        · left
          rw [List.set_eq_of_length_le (by omega)]
      · left
        simp only [List.getD_eq_getElem?_getD]
        rw [List.getElem?_set_ne e]
    · exact .inr ⟨y, by simp [hy], h1, h2⟩
theorem kept_sub (W : List (Nat × List UInt8)) (ks : List Bool) (k : Nat) : ∀ x ∈ kept W ks k, x ∈ W := by
  intro x hx
  unfold kept at hx
  obtain ⟨i, _, hi⟩ := List.mem_filterMap.1 hx
  split at hi
  · exact List.mem_of_getElem? hi
  · cases hi
theorem crash_or (D : Dv) (ks : List Bool) (j : Nat) : (D.crashed ks).L.getD j [] = D.L.getD j [] ∨ ∃ x ∈ D.W, x.1 = j ∧ (D.crashed ks).L.getD j [] = x.2 := by
  rcases laid_or (kept D.W ks D.W.length) D.L j with h | ⟨x, hx, h1, h2⟩
  · exact .inl h
  · exact .inr ⟨x, kept_sub _ _ _ x hx, h1, h2⟩
theorem crash_len (D : Dv) (ks : List Bool) : (D.crashed ks).L.length = D.L.length := length_laidOver _ _
theorem crash_none_L {D : Dv} (h : D.W = []) (ks : List Bool) : (D.crashed ks).L = D.L := by
  show laidOver D.L (kept D.W ks D.W.length) = _
  rw [h]
  rfl

/-! ### A lay, with a fuse or without -/
theorem burnt_neg {D : Dv} (h : D.fuse < 0) : D.burnt.fuse < 0 := by
  show (if 0 < D.fuse then D.fuse - 1 else D.fuse) < 0
  rw [if_neg (by omega)]
  exact h
theorem lay_cases : ∀ (ss : List (List UInt8)) (D : Dv) (i : Nat), D.dead = false → i + ss.length ≤ D.L.length → (∀ s ∈ ss, s.length = 128) →
    (∃ E, D.lay i ss = (0, E) ∧ E.dead = false ∧ E.W = [] ∧ E.L = setN (laidOver D.L D.W) i ss ∧ (D.fuse < 0 → E.fuse < 0)) ∨
    (∃ E, D.lay i ss = (50, E) ∧ E.L = D.L ∧ (∀ x ∈ E.W, x ∈ D.W ∨ ∃ k, k < ss.length ∧ x = (i + k, ss.getD k [])) ∧ ¬ D.fuse < 0)
  | [], D, i, hd, _, _ => by
    rw [Dv.lay, live_sync D hd]
    by_cases hf : D.fuse = 0
    · rw [if_pos hf]
      exact .inr ⟨_, rfl, rfl, fun x hx => .inl hx, by omega⟩
    · rw [if_neg hf]
      exact .inl ⟨_, rfl, hd, rfl, rfl, fun h => burnt_neg h⟩
  | s :: r, D, i, hd, hi, hs => by
    rw [List.length_cons] at hi
    have hw := live_write D i s hd (by omega) (hs s (by simp))
    rw [Dv.lay, hw]
    by_cases hf : D.fuse = 0
    · rw [if_pos hf, if_pos (by simp)]
      exact .inr ⟨_, rfl, rfl, fun x hx => .inl hx, by omega⟩
    · rw [if_neg hf, if_neg (by simp)]
      rcases lay_cases r (D.wrote i s) (i + 1) hd (by show i + 1 + r.length ≤ D.L.length; omega) (fun x hx => hs x (by simp [hx])) with ⟨E, h1, h2, h3, h4, h5⟩ | ⟨E, h1, h2, h3, h4⟩
      · refine .inl ⟨E, h1, h2, h3, ?_, fun h => h5 (burnt_neg h)⟩
        rw [h4, setN]
        show setN (laidOver D.L (D.W ++ [(i, s)])) (i + 1) r = _
        rw [laidOver_snoc]
      · refine .inr ⟨E, h1, h2, fun x hx => ?_, fun h => h4 (burnt_neg h)⟩
        rcases h3 x hx with h5 | ⟨k, hk, h5⟩
        · rcases List.mem_append.1 h5 with h6 | h6
          · exact .inl h6
          · simp at h6
            exact .inr ⟨0, by simp, by rw [h6]; rfl⟩
        · refine .inr ⟨k + 1, by rw [List.length_cons]; omega, ?_⟩
          rw [h5]
          congr 1
          omega

/-! ### What a file's sectors are -/
def hd (L : List (List UInt8)) (fr : Nat) : Nat := beval ((L.getD fr []).take 8)
structure Good (fr n : Nat) (L : List (List UInt8)) (X : Nat → List UInt8) : Prop where
  head : hd L fr = 0
  pages : ∀ j, j < n → pageL L (fr + 5 + 4 * j) = X j
structure Mid (fr n i : Nat) (L : List (List UInt8)) (X : Nat → List UInt8) : Prop where
  lt : i < n
  head : hd L fr = i + 1
  jour : pageL L (fr + 1) = X i
  pages : ∀ j, j < n → j ≠ i → pageL L (fr + 5 + 4 * j) = X j
def Safe (fr n : Nat) (L : List (List UInt8)) (X : Nat → List UInt8) : Prop := Good fr n L X ∨ ∃ i, Mid fr n i L X

theorem pageL_same {L L' : List (List UInt8)} {i : Nat} (h : ∀ j, i ≤ j → j < i + 4 → L'.getD j [] = L.getD j []) : pageL L' i = pageL L i := by
  unfold pageL
  rw [h i (by omega) (by omega), h (i + 1) (by omega) (by omega), h (i + 2) (by omega) (by omega), h (i + 3) (by omega) (by omega)]
theorem hd_same {L L' : List (List UInt8)} {fr : Nat} (h : L'.getD fr [] = L.getD fr []) : hd L' fr = hd L fr := by unfold hd; rw [h]
/-- What a lay that failed leaves elsewhere. -/
theorem torn_out {E : Dv} {L ss : List (List UInt8)} {i : Nat} (hL : E.L = L) (hW : ∀ x ∈ E.W, x ∈ ([] : List (Nat × List UInt8)) ∨ ∃ k, k < ss.length ∧ x = (i + k, ss.getD k [])) (ks : List Bool) (j : Nat) (hj : j < i ∨ i + ss.length ≤ j) : (E.crashed ks).L.getD j [] = L.getD j [] := by
  rcases crash_or E ks j with h | ⟨x, hx, h1, h2⟩
  · rw [h, hL]
  · rcases hW x hx with h3 | ⟨k, hk, h3⟩
    · cases h3
    · rw [h3] at h1
      simp at h1
      omega
/-- A head that was under way is the old or the new one. -/
theorem torn_one {E : Dv} {L : List (List UInt8)} {s : List UInt8} {i : Nat} (hL : E.L = L) (hW : ∀ x ∈ E.W, x ∈ ([] : List (Nat × List UInt8)) ∨ ∃ k, k < [s].length ∧ x = (i + k, [s].getD k [])) (ks : List Bool) : (E.crashed ks).L.getD i [] = L.getD i [] ∨ (E.crashed ks).L.getD i [] = s := by
  rcases crash_or E ks i with h | ⟨x, hx, h1, h2⟩
  · left; rw [h, hL]
  · rcases hW x hx with h3 | ⟨k, hk, h3⟩
    · cases h3
    · right
      have : k = 0 := by simp at hk; omega
      subst this
      rw [h2, h3]
      rfl
theorem setN_one (L : List (List UInt8)) (i : Nat) (s : List UInt8) (h : i < L.length) : (setN L i [s]).getD i [] = s := by
  simp [setN, h]

theorem lay_W4 {D : Dv} (hW : D.W = []) (i : Nat) (ss : List (List UInt8)) (h : ss.length ≤ 4) : (D.lay i ss).2.W.length ≤ 4 := by
  have := lay_W ss D i
  rw [hW] at this
  simp at this
  omega

section
variable {D : Dv} {fr n i : Nat} {b : List UInt8} {X : Nat → List UInt8}
/-- From the page on. -/
theorem carP_safe (hd0 : D.dead = false) (hW : D.W = []) (hL : fr + 5 + 4 * n ≤ D.L.length) (hn : n < 1000000) (hb : b.length = 512) (hm : Mid fr n i D.L X) (hX : X i = b) :
    (∃ E, D.carP fr i b = (0, E) ∧ E.dead = false ∧ E.W = [] ∧ E.L.length = D.L.length ∧ Good fr n E.L X ∧ (D.fuse < 0 → E.fuse < 0)) ∨
    (∃ E, D.carP fr i b = (50, E) ∧ E.L.length = D.L.length ∧ E.W.length ≤ 4 ∧ (∀ ks, Safe fr n (E.crashed ks).L X) ∧ ¬ D.fuse < 0) := by
  have hs := length_secsOf 4 b
  have hl := length_secs 4 b (by omega)
  have hi := hm.lt
  have w4 := lay_W4 hW (fr + 5 + 4 * i) (secsOf 4 b) (by omega)
  unfold Dv.carP
  rcases lay_cases (secsOf 4 b) D (fr + 5 + 4 * i) hd0 (by omega) hl with ⟨E, h1, h2, h3, h4, h5⟩ | ⟨E, h1, h2, h3, h4⟩
  · rw [hW] at h4
    have h4 : E.L = setN D.L (fr + 5 + 4 * i) (secsOf 4 b) := h4
    have hEL : E.L.length = D.L.length := by rw [h4, length_setN]
    have hhd : hd E.L fr = i + 1 := by rw [h4, hd_same (setN_getD_out _ _ _ _ (by left; omega)), hm.head]
    have hpg : ∀ j, j < n → pageL E.L (fr + 5 + 4 * j) = X j := fun j hj => by
      by_cases e : j = i
      · rw [e, h4, pageL_in b _ _ hb (by omega), hX]
      · rw [h4, pageL_out _ _ _ _ (by rw [hs]; omega), hm.pages j hj e]
    have hjo : pageL E.L (fr + 1) = X i := by rw [h4, pageL_out _ _ _ _ (by left; omega), hm.jour]
    have w1 := lay_W4 h3 fr [headOf 0] (by simp)
    rw [h1, onOk_ok rfl]
    rcases lay_cases [headOf 0] E fr h2 (by simp; omega) (fun s hs => by simp at hs; rw [hs, length_headOf]) with ⟨F, g1, g2, g3, g4, g5⟩ | ⟨F, g1, g2, g3, g4⟩
    · rw [h3] at g4
      have g4 : F.L = setN E.L fr [headOf 0] := g4
      refine .inl ⟨F, g1, g2, g3, by rw [g4, length_setN, hEL], ⟨?_, fun j hj => ?_⟩, fun h => g5 (h5 h)⟩
      · unfold hd
        rw [g4, setN_one _ _ _ (by omega), beval_head0]
      · rw [g4, pageL_out _ _ _ _ (by right; simp; omega), hpg j hj]
    · rw [h3] at g3
      rw [g1] at w1
      refine .inr ⟨F, g1, by rw [g2, hEL], w1, fun ks => ?_, fun h => g4 (h5 h)⟩
      have hout : ∀ j, j ≠ fr → (F.crashed ks).L.getD j [] = E.L.getD j [] := fun j hj => torn_out g2 g3 ks j (by simp; omega)
      have hp2 : ∀ j, j < n → pageL (F.crashed ks).L (fr + 5 + 4 * j) = X j := fun j hj => by rw [pageL_same (fun k hk _ => hout k (by omega)), hpg j hj]
      rcases torn_one g2 g3 ks with h6 | h6
      · exact .inr ⟨i, hi, by rw [hd_same h6, hhd], by rw [pageL_same (fun k hk _ => hout k (by omega)), hjo], fun j hj _ => hp2 j hj⟩
      · exact .inl ⟨by unfold hd; rw [h6, beval_head0], hp2⟩
  · rw [hW] at h3
    rw [h1] at w4
    rw [h1, onOk_no (by decide)]
    refine .inr ⟨E, rfl, by rw [h2], w4, fun ks => .inr ⟨i, hi, ?_, ?_, fun j hj e => ?_⟩, h4⟩
    · rw [hd_same (torn_out h2 h3 ks fr (by left; omega)), hm.head]
    · rw [pageL_same (fun k hk hk2 => torn_out h2 h3 ks k (by left; omega)), hm.jour]
    · rw [pageL_same (fun k hk hk2 => torn_out h2 h3 ks k (by rw [hs]; omega)), hm.pages j hj e]
/-- The pages, one of them new. -/
def upd (X : Nat → List UInt8) (i : Nat) (b : List UInt8) : Nat → List UInt8 := fun j => if j = i then b else X j
theorem upd_same (X : Nat → List UInt8) (i : Nat) (b : List UInt8) : upd X i b i = b := if_pos rfl
theorem upd_other (X : Nat → List UInt8) (i j : Nat) (b : List UInt8) (h : j ≠ i) : upd X i b j = X j := if_neg h
/-- All of a write. -/
theorem carJ_safe (hd0 : D.dead = false) (hW : D.W = []) (hL : fr + 5 + 4 * n ≤ D.L.length) (hn : n < 1000000) (hb : b.length = 512) (hg : Good fr n D.L X) (hi : i < n) :
    (∃ E, D.carJ fr i b = (0, E) ∧ E.dead = false ∧ E.W = [] ∧ E.L.length = D.L.length ∧ Good fr n E.L (upd X i b)) ∨
    (∃ E, D.carJ fr i b = (50, E) ∧ E.L.length = D.L.length ∧ E.W.length ≤ 4 ∧ ∀ ks, Safe fr n (E.crashed ks).L X ∨ Safe fr n (E.crashed ks).L (upd X i b)) := by
  have hs := length_secsOf 4 b
  have hl := length_secs 4 b (by omega)
  have w4 := lay_W4 hW (fr + 1) (secsOf 4 b) (by omega)
  unfold Dv.carJ
  rcases lay_cases (secsOf 4 b) D (fr + 1) hd0 (by omega) hl with ⟨E, h1, h2, h3, h4, h5⟩ | ⟨E, h1, h2, h3, h4⟩
  · rw [hW] at h4
    have h4 : E.L = setN D.L (fr + 1) (secsOf 4 b) := h4
    have hEL : E.L.length = D.L.length := by rw [h4, length_setN]
    have hhd : hd E.L fr = 0 := by rw [h4, hd_same (setN_getD_out _ _ _ _ (by left; omega)), hg.head]
    have hpg : ∀ j, j < n → pageL E.L (fr + 5 + 4 * j) = X j := fun j hj => by rw [h4, pageL_out _ _ _ _ (by rw [hs]; omega), hg.pages j hj]
    have hjo : pageL E.L (fr + 1) = b := by rw [h4, pageL_in b _ _ hb (by omega)]
    have w1 := lay_W4 h3 fr [headOf (i + 1)] (by simp)
    rw [h1, onOk_ok rfl]
    unfold Dv.carH
    rcases lay_cases [headOf (i + 1)] E fr h2 (by simp; omega) (fun s hs => by simp at hs; rw [hs, length_headOf]) with ⟨F, g1, g2, g3, g4, g5⟩ | ⟨F, g1, g2, g3, g4⟩
    · rw [h3] at g4
      have g4 : F.L = setN E.L fr [headOf (i + 1)] := g4
      have hFL : F.L.length = D.L.length := by rw [g4, length_setN, hEL]
      rw [g1, onOk_ok rfl]
      have hM : Mid fr n i F.L (upd X i b) := by
        refine ⟨hi, ?_, ?_, fun j hj e => ?_⟩
        · unfold hd
          rw [g4, setN_one _ _ _ (by omega), beval_head _ (by omega)]
        · rw [g4, pageL_out _ _ _ _ (by right; simp), hjo, upd_same]
        · rw [g4, pageL_out _ _ _ _ (by right; simp; omega), hpg j hj, upd_other _ _ _ _ e]
      rcases carP_safe g2 g3 (by omega) hn hb hM (upd_same X i b) with ⟨G, a1, a2, a3, a4, a5, a6⟩ | ⟨G, a1, a2, a3, a4, a5⟩
      · exact .inl ⟨G, a1, a2, a3, by rw [a4, hFL], a5⟩
      · exact .inr ⟨G, a1, by rw [a2, hFL], a3, fun ks => .inr (a4 ks)⟩
    · rw [h3] at g3
      rw [g1] at w1
      rw [g1, onOk_no (by decide)]
      refine .inr ⟨F, rfl, by rw [g2, hEL], w1, fun ks => ?_⟩
      have hout : ∀ j, j ≠ fr → (F.crashed ks).L.getD j [] = E.L.getD j [] := fun j hj => torn_out g2 g3 ks j (by simp; omega)
      have hp2 : ∀ j, j < n → pageL (F.crashed ks).L (fr + 5 + 4 * j) = X j := fun j hj => by rw [pageL_same (fun k hk _ => hout k (by omega)), hpg j hj]
      rcases torn_one g2 g3 ks with h6 | h6
      · exact .inl (.inl ⟨by rw [hd_same h6, hhd], hp2⟩)
      · refine .inr (.inr ⟨i, hi, ?_, ?_, fun j hj e => by rw [hp2 j hj, upd_other _ _ _ _ e]⟩)
        · unfold hd
          rw [h6, beval_head _ (by omega)]
        · rw [pageL_same (fun k hk _ => hout k (by omega)), hjo, upd_same]
  · rw [hW] at h3
    rw [h1] at w4
    rw [h1, onOk_no (by decide)]
    refine .inr ⟨E, rfl, by rw [h2], w4, fun ks => .inl (.inl ⟨?_, fun j hj => ?_⟩)⟩
    · rw [hd_same (torn_out h2 h3 ks fr (by left; omega)), hg.head]
    · rw [pageL_same (fun k hk hk2 => torn_out h2 h3 ks k (by rw [hs]; omega)), hg.pages j hj]
/-- An Open. -/
theorem mend_safe (hwf : D.wf) (hd0 : D.dead = false) (hW : D.W = []) (hL : fr + 5 + 4 * n ≤ D.L.length) (hn : n < 1000000) (hS : Safe fr n D.L X) :
    (∃ E, D.mend fr n = (0, E) ∧ E.dead = false ∧ E.W = [] ∧ E.L.length = D.L.length ∧ Good fr n E.L X) ∨
    (∃ E, D.mend fr n = (50, E) ∧ E.L.length = D.L.length ∧ E.W.length ≤ 4 ∧ (∀ ks, Safe fr n (E.crashed ks).L X) ∧ ¬ D.fuse < 0) := by
  have hnm : D.named fr = hd D.L fr := by
    unfold Dv.named hd
    rw [newest_L hW]
  unfold Dv.mend
  rw [if_neg (by simp [hd0]), hnm]
  rcases hS with hg | ⟨i, hm⟩
  · rw [hg.head, if_pos (by left; omega)]
    exact .inl ⟨_, rfl, by rw [more_dead, hd0], by rw [more_W, hW], by rw [more_L], by rw [more_L]; exact hg⟩
  · have hi := hm.lt
    rw [hm.head, if_neg (by omega), show i + 1 - 1 = i by omega]
    have hX : X i = D.four (fr + 1) := by rw [four_L hW, hm.jour]
    have hb : (D.four (fr + 1)).length = 512 := length_four hwf (fr + 1) (by omega)
    rcases carP_safe (D := D.more 5) (fr := fr) (n := n) (i := i) (by rw [more_dead, hd0]) (by rw [more_W, hW]) (by rw [more_L]; exact hL) hn hb (by rw [more_L]; exact hm) hX with ⟨G, a1, a2, a3, a4, a5, a6⟩ | ⟨G, a1, a2, a3, a4, a5⟩
    · rw [more_L] at a4
      exact .inl ⟨G, a1, a2, a3, a4, a5⟩
    · rw [more_L] at a2
      rw [more_fuse] at a5
      exact .inr ⟨G, a1, a2, a3, a4, a5⟩
end
theorem fresh_good (N fr n : Nat) (h : fr + 5 + 4 * n ≤ N) (hn : 1 ≤ n) : Good fr n (Dv.fresh N).L (fun _ => zerosN 512) := by
  refine ⟨?_, fun j hj => fresh_page N _ (by omega)⟩
  unfold hd
  rw [fresh_head N fr (by omega), beval_head0]
end Go.Proofs.Ytkdlggobbkedmaa
