/- A written list of tokens is read as the same list. -/
import Derived.Test.YtnbegpfbolkdiaaDoorBck
namespace Go.Proofs.YtnbegpfbolkdiaaDoor
open Go.RowKit
set_option linter.unusedVariables false
set_option linter.unusedSimpArgs false

/-! ### What stands between -/
def seps : List (List UInt8) := [[32], [9, 10], [32, 45, 45, 32, 97, 32, 39, 98, 10], [13, 10, 32]]
theorem sep_skip {p : List UInt8} (h : p ∈ seps) (r : List UInt8) : skipS false (p ++ r) = p.length + skipS false r := by
  have k32 : kdB 32 = 2 := by decide
  have k9 : kdB 9 = 2 := by decide
  have k10 : kdB 10 = 3 := by decide
  have k13 : kdB 13 = 2 := by decide
  have k45 : kdB 45 = 7 := by decide
  have k97 : kdB 97 = 4 := by decide
  have k39 : kdB 39 = 6 := by decide
  have k98 : kdB 98 = 4 := by decide
  simp only [seps, List.mem_cons, List.not_mem_nil, or_false] at h
  rcases h with rfl | rfl | rfl | rfl
  · simp [skipS, k32]; omega
  · simp [skipS, k9, k10]; omega
  · simp [skipS, k32, k45, k97, k39, k98, k10, kdAt_cons]; omega
  · simp [skipS, k13, k10, k32]; omega
theorem sep_head {p : List UInt8} (h : p ∈ seps) (r : List UInt8) : ∃ c r', p ++ r = c :: r' ∧ (c = 32 ∨ c = 9 ∨ c = 13) := by
  simp only [seps, List.mem_cons, List.not_mem_nil, or_false] at h
  rcases h with rfl | rfl | rfl | rfl
  · exact ⟨32, _, rfl, .inl rfl⟩
  · exact ⟨9, _, rfl, .inr (.inl rfl)⟩
  · exact ⟨32, _, rfl, .inl rfl⟩
  · exact ⟨13, _, rfl, .inr (.inr rfl)⟩
theorem sep_pos {p : List UInt8} (h : p ∈ seps) : 1 ≤ p.length ∧ p.length ≤ 9 := by
  simp only [seps, List.mem_cons, List.not_mem_nil, or_false] at h
  rcases h with rfl | rfl | rfl | rfl <;> decide

/-! ### One token -/
theorem run_app (p : Nat → Bool) (r : List UInt8) (hr : p (kdAt r 0) = false) (hr1 : kdAt r 0 ≠ 1) : ∀ w : List UInt8, (∀ c ∈ w, p (kdB c) = true) → runN p (w ++ r) = w.length
  | [], _ => by
    cases r with
    | nil => exact absurd rfl hr1
    | cons d r =>
      have : ¬ p (kdB d) = true := by rw [show kdB d = kdAt (d :: r) 0 from rfl, hr]; simp
      simp only [List.nil_append, runN, if_neg this]
      rfl
  | c :: w, h => by
    simp only [List.cons_append, runN, List.length_cons]
    rw [if_pos (h c (by simp)), run_app p r hr hr1 w (fun c hc => h c (by simp [hc]))]
theorem seg_drop (l : List UInt8) (i n : Nat) : seg l i (i + n) = (l.drop i).take n := by
  unfold seg
  rw [Nat.add_sub_cancel_left]
theorem good_told {t : Tk} (g : Good t) (T : List UInt8) (i : Nat) (r : List UInt8) (c0 : UInt8) (r' : List UInt8) (hr : r = c0 :: r') (hc0 : c0 = 32 ∨ c0 = 9 ∨ c0 = 13) (hT : T.drop i = told t ++ r) :
    tokAt T i = some (⟨t.k, t.t, t.n, i⟩, i + (told t).length) ∧ kdAt T i ≠ 2 ∧ kdAt T i ≠ 3 ∧ ¬ (kdAt T i = 7 ∧ kdAt T (i + 1) = 7) := by
  have hk0 : kdB c0 = 2 := by rcases hc0 with rfl | rfl | rfl <;> decide
  have hr0 : kdAt r 0 = 2 := by rw [hr]; exact hk0
  have hkT : ∀ j, kdAt T (i + j) = kdAt (told t ++ r) j := fun j => by rw [← hT, kdAt_drop]
  have hkT0 : kdAt T i = kdAt (told t ++ r) 0 := hkT 0
  have hD1 : T.drop (i + 1) = (told t ++ r).drop 1 := by rw [← hT, List.drop_drop]
  rcases g.kind with ⟨h1, hn, ⟨c, w, hcw, hc4⟩, hall, h32⟩ | ⟨h2, ht0, hn⟩ | ⟨h3, hn⟩ | ⟨h4, hn, hs⟩
  · -- a word
    have htold : told t = t.t := by unfold told; rw [if_neg (by omega), if_neg (by omega)]
    rw [htold] at hkT0 hD1 hT ⊢
    have hk4 : kdAt T i = 4 := by rw [hkT0, hcw]; exact hc4
    have hrun : runTo wd T (i + 1) = i + t.t.length := by
      unfold runTo
      rw [hD1, hcw]
      show i + 1 + runN wd (w ++ r) = _
      rw [run_app wd r (by rw [hr0]; rfl) (by omega) w (fun d hd => (hall d (by rw [hcw]; simp [hd])).1)]
      simp only [List.length_cons]; omega
    have hst : strF T i = (1, i + t.t.length) := by
      unfold strF
      rw [if_pos hk4, hrun]
    have hseg : seg T i (i + t.t.length) = t.t := by
      rw [seg_drop, hT, List.take_left]
    have hlow : Lib.toLowerA t.t = t.t := by
      have := (List.map_eq_map_iff (f := Lib.lowerB) (g := id) (l := t.t)).2 (fun d hd => (hall d hd).2)
      rw [List.map_id] at this
      exact this
    refine ⟨?_, by omega, by omega, by omega⟩
    unfold tokAt
    rw [hst]
    simp only [if_true]
    rw [if_pos (by omega), hseg, hlow, h1, hn]
  · -- a number
    have htold : told t = decL t.n := by unfold told; rw [if_pos h2]
    rw [htold] at hkT0 hD1 hT ⊢
    obtain ⟨c, w, hcw⟩ : ∃ c w, decL t.n = c :: w := by
      cases h : decL t.n with
      | nil => exact absurd h (decL_ne _)
      | cons c w => exact ⟨c, w, rfl⟩
    have hdig := decL_digits t.n
    have hk5 : kdAt T i = 5 := by rw [hkT0, hcw]; exact (kd_all c).2.1.1 (hdig c (by rw [hcw]; simp))
    have hdg : ∀ d ∈ decL t.n, dg (kdB d) = true := fun d hd => by rw [(kd_all d).2.1.1 (hdig d hd)]; rfl
    have hil : i < T.length := lt_of_kd (by omega)
    have hrun : runTo dg T i = i + (decL t.n).length := by
      unfold runTo
      rw [hT, run_app dg r (by rw [hr0]; rfl) (by omega) _ hdg]
    have hseg : seg T i (i + (decL t.n).length) = decL t.n := by
      rw [seg_drop, hT, List.take_left]
    have hkE : kdAt T (i + (decL t.n).length) = 2 := by
      rw [← kdAt_drop T i, hT]
      have : (decL t.n ++ r)[(decL t.n).length]? = r[0]? := by rw [List.getElem?_append_right (Nat.le_refl _), Nat.sub_self]
      unfold kdAt
      rw [this]
      exact hr0
    have hlen : (decL t.n).length ≤ 19 := decL_len 18 t.n (by omega)
    refine ⟨?_, by omega, by omega, by omega⟩
    rw [tok_number hil hk5, hrun, hkE, if_neg (by omega), hseg, decL_val, if_pos ⟨by omega, hn⟩, h2, ht0]
  · -- a text
    have htold : told t = 39 :: qu t.t ++ [39] := by unfold told; rw [if_neg (by omega), if_pos h3]
    rw [htold] at hkT0 hD1 hT ⊢
    have hk6 : kdAt T i = 6 := by rw [hkT0]; exact (by decide : kdB 39 = 6)
    have hdrop : T.drop (i + 1) = qu t.t ++ 39 :: r := by rw [hD1]; simp
    refine ⟨?_, by omega, by omega, by omega⟩
    rw [tok_text hk6, hdrop, txt_qu r (by omega)]
    simp only [Option.map_some, h3, hn, List.length_append, List.length_cons, List.length_nil]
    congr 2
    omega
  · -- a sign
    have htold : told t = t.t := by unfold told; rw [if_neg (by omega), if_neg (by omega)]
    rw [htold] at hkT0 hkT hD1 hT ⊢
    rcases hs with ⟨c, hc, hk78, h124⟩ | ⟨c, d, hcd, h2⟩
    · have hTl : T.drop i = c :: c0 :: r' := by rw [hT, hc, hr]; rfl
      have hil : i < T.length := by
        rcases Nat.lt_or_ge i T.length with h | h
        · exact h
        · rw [List.drop_of_length_le h] at hTl; cases hTl
      have hTi : T[i] = c := by
        have := drop_of_lt hil
        rw [hTl] at this
        injection this with a b
        exact a.symm
      have hTi1 : T[i + 1]? = some c0 := by
        have e : (T.drop i)[1]? = T[i + 1]? := by rw [List.getElem?_drop]
        rw [← e, hTl]
        rfl
      have h5 := tok_sign (l := T) (i := i) hil (by rw [hTi]; omega) (by rw [hTi]; omega) (by rw [hTi]; omega)
      rw [hTi, hTi1] at h5
      have hn2 : sgnB c (some c0) ≠ 2 := by
        rw [sgn_two]
        rcases hc0 with rfl | rfl | rfl <;> simp <;> split <;> omega
      have hm : c ∈ sgL := by
        rcases (sg_kind c).1 hk78 with h | h
        · exact h
        · exact absurd h h124
      have h6 := h5.2.1 hn2 hm
      have hkTi : kdAt T i = kdB c := by rw [hkT0, hc]; rfl
      have hkTi1 : kdAt T (i + 1) = 2 := by rw [hkT 1, hc, hr]; exact hk0
      refine ⟨?_, by omega, by omega, by omega⟩
      rw [h6, seg_drop, hTl, hc, h4, hn]
      rfl
    · have hTl : T.drop i = c :: d :: r := by rw [hT, hcd]; rfl
      have hil : i < T.length := by
        rcases Nat.lt_or_ge i T.length with h | h
        · exact h
        · rw [List.drop_of_length_le h] at hTl; cases hTl
      have hTi : T[i] = c := by
        have := drop_of_lt hil
        rw [hTl] at this
        injection this with a b
        exact a.symm
      have hTi1 : T[i + 1]? = some d := by
        have e : (T.drop i)[1]? = T[i + 1]? := by rw [List.getElem?_drop]
        rw [← e, hTl]
        rfl
      have hk78 := sgnB_two h2
      have h5 := tok_sign (l := T) (i := i) hil (by rw [hTi]; omega) (by rw [hTi]; omega) (by rw [hTi]; omega)
      rw [hTi, hTi1] at h5
      have h6 := h5.1 h2
      have hk8 : kdB c ≠ 7 := by
        unfold sgnB at h2
        split at h2
        · rename_i hh
          rcases hh with ⟨h, _⟩ | ⟨h, _⟩ | ⟨h, _⟩
          · have := (toNat_is c 60 (by omega)).1 h; subst this; decide
          · have := (toNat_is c 62 (by omega)).1 h; subst this; decide
          · have := (toNat_is c 124 (by omega)).1 h; subst this; decide
        · split at h2 <;> omega
      have hkTi : kdAt T i = kdB c := by rw [hkT0, hcd]; rfl
      refine ⟨?_, by omega, by omega, by omega⟩
      rw [h6, seg_drop, hTl, hcd, h4, hn]
      rfl
/-! ### All of them -/
def toldAll (p : List UInt8) (ts : List Tk) : List UInt8 := ts.flatMap fun t => told t ++ p
theorem told_pos {t : Tk} (g : Good t) : 1 ≤ (told t).length := by
  unfold told
  rcases g.kind with ⟨h1, _, ⟨c, w, hcw, _⟩, _, _⟩ | ⟨h2, _, _⟩ | ⟨h3, _⟩ | ⟨h4, _, hs⟩
  · rw [if_neg (by omega), if_neg (by omega), hcw]; simp
  · rw [if_pos h2]
    cases h : decL t.n with
    | nil => exact absurd h (decL_ne _)
    | cons c w => simp
  · rw [if_neg (by omega), if_pos h3]; simp
  · rw [if_neg (by omega), if_neg (by omega)]
    rcases hs with ⟨c, hc, _⟩ | ⟨c, d, hcd, _⟩
    · rw [hc]; simp
    · rw [hcd]; simp
theorem toldAll_cons (p : List UInt8) (t : Tk) (ts : List Tk) : toldAll p (t :: ts) = told t ++ (p ++ toldAll p ts) := by simp [toldAll]
theorem skip_toldAll {p : List UInt8} (hp : p ∈ seps) {ts : List Tk} (hg : ∀ t ∈ ts, Good t) : skipS false (toldAll p ts) = 0 := by
  cases ts with
  | nil => rfl
  | cons t r =>
    obtain ⟨c0, r', h1, h2⟩ := sep_head hp (toldAll p r)
    have := good_told (hg t (by simp)) (toldAll p (t :: r)) 0 _ c0 r' h1 h2 (by rw [List.drop_zero, toldAll_cons])
    have hs := skip_stop (l := toldAll p (t :: r)) (i := 0) this.2.1 this.2.2.1 this.2.2.2
    unfold skipTo at hs
    rw [List.drop_zero] at hs
    omega
def shape (t : Tk) : Nat × List UInt8 × Nat := (t.k, t.t, t.n)
theorem read_back {p : List UInt8} (hp : p ∈ seps) : ∀ (ts : List Tk), (∀ t ∈ ts, Good t) → ∀ (T : List UInt8) (i f : Nat) (acc : List Tk), i ≤ T.length → T.drop (skipTo T false i) = toldAll p ts → ts.length < f →
    ∃ ms q, toks T f i acc = .inl (acc ++ ms ++ [⟨5, [], 0, q⟩]) ∧ ms.map shape = ts.map shape
  | [], _, T, i, f, acc, hi, hT, hf => by
    obtain ⟨f, rfl⟩ : ∃ g, f = g + 1 := ⟨f - 1, by simp at hf; omega⟩
    have hle := skipTo_le (l := T) (b := false) (i := i) hi
    have hlen : T.length ≤ skipTo T false i := by
      have := congrArg List.length hT
      rw [List.length_drop] at this
      have e : (toldAll p []).length = 0 := rfl
      omega
    have hk := kdAt_over hlen
    have hst : strF T (skipTo T false i) = (5, skipTo T false i) := by
      unfold strF
      rw [if_neg (by omega), if_neg (by omega), if_neg (by omega), if_neg (by omega), if_pos hk]
    have ht : tokAt T (skipTo T false i) = some (⟨5, [], 0, skipTo T false i⟩, skipTo T false i) := by unfold tokAt; rw [hst]; rfl
    refine ⟨[], skipTo T false i, ?_, rfl⟩
    simp only [toks, ht, if_true, List.append_nil]
  | t :: r, hg, T, i, f, acc, hi, hT, hf => by
    obtain ⟨f, rfl⟩ : ∃ g, f = g + 1 := ⟨f - 1, by simp at hf; omega⟩
    have hle := skipTo_le (l := T) (b := false) (i := i) hi
    obtain ⟨P, hP⟩ : ∃ P, skipTo T false i = P := ⟨_, rfl⟩
    rw [hP] at hT hle
    obtain ⟨c0, r', h1, h2⟩ := sep_head hp (toldAll p r)
    have hgt := hg t (by simp)
    rw [toldAll_cons] at hT
    have h3 := (good_told hgt T P _ c0 r' h1 h2 hT).1
    have hk5 : t.k ≠ 5 := by rcases hgt.kind with h | h | h | h <;> omega
    have hdr : T.drop (P + (told t).length) = p ++ toldAll p r := by
      rw [← List.drop_drop, hT, List.drop_left]
    have hel : P + (told t).length ≤ T.length := by
      have := congrArg List.length hT
      rw [List.length_drop, List.length_append] at this
      have := told_pos hgt
      omega
    have hsk : skipTo T false (P + (told t).length) = P + (told t).length + p.length := by
      unfold skipTo
      rw [hdr, sep_skip hp, skip_toldAll hp (fun t ht => hg t (by simp [ht]))]
      omega
    have hT2 : T.drop (skipTo T false (P + (told t).length)) = toldAll p r := by
      rw [hsk, ← List.drop_drop, hdr, List.drop_left]
    obtain ⟨ms, q, h4, h5⟩ := read_back hp r (fun t ht => hg t (by simp [ht])) T (P + (told t).length) f (acc ++ [⟨t.k, t.t, t.n, P⟩]) hel hT2 (by simp at hf; omega)
    refine ⟨⟨t.k, t.t, t.n, P⟩ :: ms, q, ?_, ?_⟩
    · simp only [toks, hP, h3]
      rw [if_neg hk5, h4]
      simp
    · simp only [List.map_cons, h5]
      rfl
theorem toldAll_len {p : List UInt8} (hp : p ∈ seps) : ∀ {ts : List Tk}, (∀ t ∈ ts, Good t) → ts.length ≤ (toldAll p ts).length
  | [], _ => Nat.zero_le _
  | t :: r, h => by
    have h1 := toldAll_len hp (ts := r) (fun t ht => h t (by simp [ht]))
    have h2 := told_pos (h t (by simp))
    rw [toldAll_cons]
    simp only [List.length_append, List.length_cons]
    omega
/-- What is written is read again. -/
theorem words_back {p : List UInt8} (hp : p ∈ seps) {ts : List Tk} (hg : ∀ t ∈ ts, Good t) (hl : (toldAll p ts).length ≤ 4096) :
    ∃ ms q, wordsF (toldAll p ts) = (ms ++ [⟨5, [], 0, q⟩], 0, 0) ∧ ms.map shape = ts.map shape := by
  have h0 : skipTo (toldAll p ts) false 0 = 0 := by
    unfold skipTo
    rw [List.drop_zero, skip_toldAll hp hg]
  obtain ⟨ms, q, h1, h2⟩ := read_back hp ts hg (toldAll p ts) 0 ((toldAll p ts).length + 1) [] (Nat.zero_le _) (by rw [h0, List.drop_zero]) (by have := toldAll_len hp hg; omega)
  refine ⟨ms, q, ?_, h2⟩
  unfold wordsF
  rw [if_neg (by omega), h1]
  simp
/-! ### The tokens that were told -/
theorem tok_end {l : List UInt8} {i e : Nat} {t : Tk} (h : tokAt l i = some (t, e)) (hk : t.k = 5) : t = ⟨5, [], 0, i⟩ := by
  unfold tokAt at h
  simp only at h
  split at h
  · split at h
    · simp only [Option.some.injEq, Prod.mk.injEq] at h
      obtain ⟨rfl, rfl⟩ := h
      simp at hk
    · cases h
  · split at h
    · split at h
      · simp only [Option.some.injEq, Prod.mk.injEq] at h
        obtain ⟨rfl, rfl⟩ := h
        simp at hk
      · cases h
    · split at h
      · simp only [Option.some.injEq, Prod.mk.injEq] at h
        obtain ⟨rfl, rfl⟩ := h
        simp at hk
      · split at h
        · simp only [Option.some.injEq, Prod.mk.injEq] at h
          obtain ⟨rfl, rfl⟩ := h
          simp at hk
        · split at h
          · simp only [Option.some.injEq, Prod.mk.injEq] at h
            exact h.1.symm
          · cases h
theorem toks_good {l : List UInt8} (hl : l.length ≤ 4096) : ∀ (f i : Nat) (acc ts : List Tk), i ≤ l.length → (∀ t ∈ acc, Good t ∧ t.p < i) → acc.Pairwise (fun a b => a.p < b.p) → acc.length ≤ i → toks l f i acc = .inl ts →
    ∃ us q, ts = us ++ [⟨5, [], 0, q⟩] ∧ (∀ t ∈ us, Good t) ∧ us.Pairwise (fun a b => a.p < b.p) ∧ us.length ≤ 4096
  | 0, i, acc, ts, _, _, _, _, h => by cases h
  | f + 1, i, acc, ts, hi, hacc, hpw, hal, h => by
    have hp := skipTo_le (l := l) (b := false) (i := i) hi
    have hge := skipTo_ge l false i
    simp only [toks] at h
    cases ht : tokAt l (skipTo l false i) with
    | none => rw [ht] at h; cases h
    | some q =>
      obtain ⟨t, e⟩ := q
      rw [ht] at h
      dsimp only at h
      have hin := tokAt_in hp ht
      by_cases hk : t.k = 5
      · rw [if_pos hk] at h
        injection h with h
        have ht2 : t = ⟨5, [], 0, skipTo l false i⟩ := by
          exact tok_end ht hk
        subst ht2
        exact ⟨acc, _, h.symm, fun t ht => (hacc t ht).1, hpw, by omega⟩
      · rw [if_neg hk] at h
        have he := hin.2.2.2.1 hk
        refine toks_good hl f e (acc ++ [t]) ts hin.1 ?_ ?_ (by simp; omega) h
        · intro u hu
          rcases List.mem_append.1 hu with hu | hu
          · exact ⟨(hacc u hu).1, by have := (hacc u hu).2; omega⟩
          · simp only [List.mem_singleton] at hu
            subst hu
            exact ⟨good_of hp hl ht hk, by rw [hin.2.2.1]; omega⟩
        · rw [List.pairwise_append]
          refine ⟨hpw, List.pairwise_singleton _ _, fun a ha b hb => ?_⟩
          simp only [List.mem_singleton] at hb
          subst hb
          have := (hacc a ha).2
          rw [hin.2.2.1]
          omega
theorem words_good {l : List UInt8} {ts : List Tk} {er pl : Nat} (h : wordsF l = (ts, er, pl)) : (er ≠ 0 ∧ ts = []) ∨ (er = 0 ∧ ∃ us q, ts = us ++ [⟨5, [], 0, q⟩] ∧ (∀ t ∈ us, Good t) ∧ us.Pairwise (fun a b => a.p < b.p) ∧ us.length ≤ 4096) := by
  unfold wordsF at h
  split at h
  · simp only [Prod.mk.injEq] at h
    exact .inl ⟨by omega, h.1.symm⟩
  · rename_i hl
    cases ht : toks l (l.length + 1) 0 [] with
    | inl us =>
      rw [ht] at h
      simp only [Prod.mk.injEq] at h
      obtain ⟨rfl, rfl, rfl⟩ := h
      exact .inr ⟨rfl, toks_good (by omega) _ 0 [] us (Nat.zero_le _) (fun t ht => by simp at ht) List.Pairwise.nil (Nat.le_refl _) ht⟩
    | inr p =>
      rw [ht] at h
      simp only [Prod.mk.injEq] at h
      exact .inl ⟨by omega, h.1.symm⟩
end Go.Proofs.YtnbegpfbolkdiaaDoor
