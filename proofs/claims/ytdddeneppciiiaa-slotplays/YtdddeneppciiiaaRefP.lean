/- The document's answer: the page that bytes are. -/
import Derived.Test.YtdddeneppciiiaaRefY
import Derived.Deep.CutBlock
namespace Go.Proofs.Ytdddeneppciiiaa
open Go.RowKit
set_option linter.unusedVariables false
set_option linter.unusedSimpArgs false

/-! ### What it tells: lists alone -/
def rp (bs : List UInt8) : Nat → Nat → Option (List Slt)
  | 0, _ => some []
  | k + 1, i =>
    if szo bs i = 0 then (rp bs k (i + 1)).map (none :: ·)
    else if 480 < szo bs i - 1 ∨ 504 < whe bs i ∨ 504 < whe bs i + (szo bs i - 1) then none
    else (rp bs k (i + 1)).map (some ((bs.drop (whe bs i)).take (szo bs i - 1)) :: ·)
def finR (bs : List UInt8) (nx : Nat) (S : List Slt) : Option Pg :=
  if need S S.length ≠ S.length then none else if 504 < tsize S then none else if encN S.length nx S = bs then some ⟨nx, S⟩ else none
def contR (bs : List UInt8) (nx n : Nat) (S : List Slt) : Option Pg := (rp bs (n - S.length) S.length).bind fun r => finR bs nx (S ++ r)
def refDec (bs : List UInt8) : Option Pg :=
  if bs.length ≠ 504 then none else if 124 < beval (bs.take 2) then none else contR bs (beval ((bs.drop 2).take 4)) (beval (bs.take 2)) []
theorem rd_rp {bs : List UInt8} {tb : Nat} : ∀ k i low S lo, rd bs tb k i low = some (S, lo) → low ≤ 504 → rp bs k i = some S
  | 0, i, low, S, lo, h, _ => by
    simp only [rd, Option.some.injEq, Prod.mk.injEq] at h
    simp [rp, ← h.1]
  | k + 1, i, low, S, lo, h, hl => by
    rw [rd] at h
    rw [rp]
    by_cases a : szo bs i = 0
    · rw [if_pos a] at h ⊢
      by_cases b : whe bs i = 0
      · rw [if_pos b] at h
        obtain ⟨⟨S', lo'⟩, hr, hq⟩ := Option.map_eq_some_iff.1 h
        simp only [Prod.mk.injEq] at hq
        rw [rd_rp k (i + 1) low S' lo' hr hl, ← hq.1]
        rfl
      · rw [if_neg b] at h; cases h
    · rw [if_neg a] at h ⊢
      by_cases b : 480 < szo bs i - 1
      · rw [if_pos b] at h; cases h
      rw [if_neg b] at h
      by_cases c : whe bs i < tb
      · rw [if_pos c] at h; cases h
      rw [if_neg c] at h
      by_cases d : whe bs i + (szo bs i - 1) ≠ low
      · rw [if_pos d] at h; cases h
      rw [if_neg d] at h
      have d' : whe bs i + (szo bs i - 1) = low := Classical.not_not.1 d
      obtain ⟨⟨S', lo'⟩, hr, hq⟩ := Option.map_eq_some_iff.1 h
      simp only [Prod.mk.injEq] at hq
      rw [if_neg (by omega), rd_rp k (i + 1) _ S' lo' hr (by omega), ← hq.1]
      rfl
theorem rp_spec {bs : List UInt8} (hb : bs.length = 504) : ∀ k i S, rp bs k i = some S → S.length = k ∧ ∀ d, some d ∈ S → d.length ≤ 480
  | 0, i, S, h => by
    simp only [rp, Option.some.injEq] at h
    subst h
    simp
  | k + 1, i, S, h => by
    rw [rp] at h
    split at h
    · obtain ⟨S', hr, rfl⟩ := Option.map_eq_some_iff.1 h
      obtain ⟨h1, h2⟩ := rp_spec hb k (i + 1) S' hr
      exact ⟨by simp [h1], fun d hd => h2 d (by simpa using hd)⟩
    · split at h
      · cases h
      · rename_i h0 h3
        obtain ⟨S', hr, rfl⟩ := Option.map_eq_some_iff.1 h
        obtain ⟨h1, h2⟩ := rp_spec hb k (i + 1) S' hr
        refine ⟨by simp [h1], fun d hd => ?_⟩
        simp at hd
        rcases hd with rfl | hd
        · rw [List.length_take]; omega
        · exact h2 d hd
theorem refDec_eq (bs : List UInt8) : refDec bs = dec bs := by
  by_cases hb : bs.length ≠ 504
  · unfold refDec dec; rw [if_pos hb, if_pos hb]
  by_cases hn : 124 < beval (bs.take 2)
  · unfold refDec dec; rw [if_neg hb, if_neg hb, if_pos hn, if_pos hn]
  have hb' : bs.length = 504 := Classical.not_not.1 hb
  have hx : beval ((bs.drop 2).take 4) < 4294967296 := by
    have := beval_lt ((bs.drop 2).take 4)
    rw [show ((bs.drop 2).take 4).length = 4 by rw [List.length_take, List.length_drop]; omega] at this
    exact this
  have key : ∀ g, refDec bs = some g → dec bs = some g := by
    intro g hg
    unfold refDec at hg
    rw [if_neg hb, if_neg hn] at hg
    obtain ⟨S, hr, hf⟩ := Option.bind_eq_some_iff.1 hg
    simp only [List.length_nil, Nat.sub_zero, List.nil_append] at hr hf
    obtain ⟨h1, h2⟩ := rp_spec hb' _ _ _ hr
    unfold finR at hf
    split at hf
    · cases hf
    rename_i a
    split at hf
    · cases hf
    rename_i b
    split at hf
    · rename_i c
      simp only [Option.some.injEq] at hf
      subst hf
      exact dec_eq.2 ⟨⟨hx, by show tsize S ≤ 504; omega, h2, Classical.not_not.1 a⟩, c⟩
    · cases hf
  cases hd : dec bs with
  | none =>
    cases hr : refDec bs with
    | none => rfl
    | some g => rw [key g hr] at hd; cases hd
  | some g =>
    obtain ⟨hg, he⟩ := enc_dec hd
    have hd' := hd
    unfold dec at hd'
    rw [if_neg hb, if_neg hn] at hd'
    obtain ⟨⟨S, lo⟩, hr, hf⟩ := Option.bind_eq_some_iff.1 hd'
    simp only [List.length_nil, Nat.sub_zero, List.nil_append] at hr hf
    have hS : g = ⟨beval ((bs.drop 2).take 4), S⟩ := by
      unfold fin at hf
      split at hf
      · cases hf
      split at hf
      · exact (Option.some.inj hf).symm
      · cases hf
    have hrp := rd_rp _ _ _ _ _ hr (Nat.le_refl _)
    subst hS
    unfold refDec
    rw [if_neg hb, if_neg hn]
    unfold contR
    simp only [List.length_nil, Nat.sub_zero, List.nil_append, hrp, Option.bind_some]
    unfold finR
    have h1 : need S S.length = S.length := hg.last
    have h2 : tsize S ≤ 504 := hg.size
    have h3 : encN S.length (beval ((bs.drop 2).take 4)) S = bs := he
    rw [if_neg (by simp [h1]), if_neg (by omega), if_pos h3]
theorem contR_end (bs : List UInt8) (nx : Nat) (S : List Slt) : contR bs nx S.length S = finR bs nx S := by simp [contR, rp]
theorem contR_none {bs : List UInt8} {nx n : Nat} {S : List Slt} (h : S.length < n) (hs : szo bs S.length = 0) : contR bs nx n S = contR bs nx n (S ++ [none]) := by
  obtain ⟨k, hk⟩ : ∃ k, n - S.length = k + 1 := ⟨n - S.length - 1, by omega⟩
  have hk' : n - (S ++ [none]).length = k := by simp; omega
  unfold contR
  rw [hk, hk', rp, if_pos hs, Option.bind_map]
  simp only [List.length_append, List.length_cons, List.length_nil, List.append_assoc, List.singleton_append, Nat.zero_add]
  rfl
theorem contR_wrong {bs : List UInt8} {nx n : Nat} {S : List Slt} (h : S.length < n) (h0 : szo bs S.length ≠ 0) (hs : 480 < szo bs S.length - 1 ∨ 504 < whe bs S.length ∨ 504 < whe bs S.length + (szo bs S.length - 1)) : contR bs nx n S = none := by
  obtain ⟨k, hk⟩ : ∃ k, n - S.length = k + 1 := ⟨n - S.length - 1, by omega⟩
  unfold contR
  rw [hk, rp, if_neg h0, if_pos hs]
  rfl
theorem contR_some {bs : List UInt8} {nx n : Nat} {S : List Slt} (h : S.length < n) (h0 : szo bs S.length ≠ 0) (h1 : szo bs S.length - 1 ≤ 480) (h2 : whe bs S.length + (szo bs S.length - 1) ≤ 504) :
    contR bs nx n S = contR bs nx n (S ++ [some ((bs.drop (whe bs S.length)).take (szo bs S.length - 1))]) := by
  obtain ⟨k, hk⟩ : ∃ k, n - S.length = k + 1 := ⟨n - S.length - 1, by omega⟩
  have hk' : n - (S ++ [some ((bs.drop (whe bs S.length)).take (szo bs S.length - 1))]).length = k := by simp; omega
  unfold contR
  rw [hk, hk', rp, if_neg h0, if_neg (by omega), Option.bind_map]
  simp only [List.length_append, List.length_cons, List.length_nil, List.append_assoc, List.singleton_append, Nat.zero_add]
  rfl
theorem need_last {S : List Slt} (h : 0 < S.length) : need S S.length = S.length ↔ (S.getD (S.length - 1) none).isSome = true := by
  obtain ⟨m, hm⟩ : ∃ m, S.length = m + 1 := ⟨S.length - 1, by omega⟩
  rw [hm, need, Nat.add_sub_cancel]
  have hlt : m < S.length := by omega
  rw [List.getElem?_eq_getElem hlt]
  have e : S.getD m none = S[m] := by simp [hlt]
  rw [e]
  have := need_le S m
  cases S[m] with
  | none => simp; omega
  | some d => simp
theorem need_zero {S : List Slt} (h : S.length = 0) : need S S.length = S.length := by rw [h]; rfl
end Go.Proofs.Ytdddeneppciiiaa
