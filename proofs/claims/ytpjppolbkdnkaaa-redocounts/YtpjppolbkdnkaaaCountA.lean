/- Analyze over a history with a checkpoint put into it, and over nothing. -/
import Derived.Test.YtpjppolbkdnkaaaCountP
import Derived.Test.YtpjppolbkdnkaaaAnalyzeG
import Derived.Test.YtpjppolbkdnkaaaBehindC
import Derived.Test.YtpjppolbkdnkaaaHistU
import Derived.Test.YtpjppolbkdnkaaaAwake
namespace Go.Proofs.Ytpjppolbkdnkaaa
open Go.RowKit
set_option linter.unusedVariables false
set_option linter.unusedSimpArgs false

theorem lines_own {w : World} {base : Nat} {a : Option Addr} {c : Nat} {M : List Ln} (h : w.ownsRow base 34 12 (.slice a M.length c) M.length (lnRow M)) (hok : ∀ x ∈ M, x.ok) (hl : M.length ≤ 1000000) : LinesAt w a M := by
  refine ⟨hl, fun i x hx => ⟨hok x (List.mem_of_getElem? hx), ?_⟩⟩
  have hi := (List.getElem?_eq_some_iff.1 hx).1
  obtain ⟨g, c', cur, e, h1, hg, _⟩ := own_some h (by omega)
  injection e with e1 e2 e3
  subst e1
  refine ⟨g, 0, rfl, (Array.getElem?_eq_some_iff.1 hg).1, ?_⟩
  rw [Nat.zero_add]
  exact row_range h i x hx
theorem analyzeC (w : World) (g o cM : Nat) (L : List Ln) (k : Nat) (C : Int) (cp : Ln) (hk : k < L.length) (hl : L.length ≤ 60) (hH : ∀ (i : Nat) (x : Ln), L[i]? = some x → Hl i x) (hC : 0 ≤ C ∧ C ≤ 65535) (h7 : cp.kind = 7) (hcc : cp.count = C) (hst : cp.st.n = 0) (hsd : cp.sd.n = 1)
    (M : List Ln) (hM : M = L.take k ++ cp :: L.drop k) (hLM : LinesAt w (some ⟨g, o, none⟩) M) (hD : DirtsAt w cp.sd.a [(9, 2)]) (mn : Nat) (hmn : M.length = mn) (hcap : mn ≤ cM) :
    Calls Try.prog 9 #[.slice (some ⟨g, o, none⟩) mn cM] w fun e w' => ∃ (at' : Option Addr) (ct tn : Nat) (ad : Option Addr) (cd : Nat) (ds : List (Int × Int)), e = .returned (.tuple #[.slice at' tn ct, .slice ad ds.length cd, .int .i64 (C + comN (L.drop k))]) ∧
      DirtOf (anaC L k C).F ds ∧ ds.length ≤ 12 ∧ DirtsAt w' ad ds ∧ Below w.heap.size w w' := by
  have hMl : M.length = L.length + 1 := by rw [hM]; simp; omega
  have hMk : M[k]? = some cp := by
    rw [hM, List.getElem?_append_right (by simp; omega)]
    simp [Nat.min_eq_left (Nat.le_of_lt hk)]
  have hMd : M.drop (k + 1) = L.drop k := by
    rw [hM, List.drop_append]
    have e1 : (L.take k).drop (k + 1) = [] := List.drop_of_length_le (by simp; omega)
    have e2 : (L.take k).length = k := by simp; omega
    rw [e1, e2, List.nil_append]
    have e3 : k + 1 - k = 1 := by omega
    rw [e3]
    rfl
  have hne : ∀ x ∈ L, x.kind ≠ 7 := fun x hx => by
    obtain ⟨i, hi⟩ := List.mem_iff_getElem?.1 hx
    have := (hH i x hi).k2
    omega
  have hone : ∀ (i : Nat) (x : Ln), M[i]? = some x → x.kind = 7 → i = k := fun i x hx hx7 => by
    rw [hM] at hx
    by_cases h1 : i < k
    · rw [List.getElem?_append_left (by simp; omega)] at hx
      exact absurd hx7 (hne x (List.mem_of_mem_take (List.mem_of_getElem? hx)))
    · by_cases h2 : i = k
      · exact h2
      · rw [List.getElem?_append_right (by simp; omega)] at hx
        have e : i - (L.take k).length = (i - k - 1) + 1 := by simp; omega
        rw [e, List.getElem?_cons_succ] at hx
        exact absurd hx7 (hne x (List.mem_of_mem_drop (List.mem_of_getElem? hx)))
  have hA := analyze_gen w ⟨some ⟨g, o, none⟩, mn, cM⟩ (anaC L k C) (fun x1 R bt bd X => by
    have hB := behindC_any X M mn hmn rfl hcap g o rfl hLM k cp hMk h7 hone (by omega) hst [(9, 2)] hD (by rw [hsd]; rfl) (by omega)
    have e1 : mn - (k + 1) = (L.drop k).length := by rw [← hMd, List.length_drop, hmn]
    rw [e1, hcc] at hB
    have hP := passG_any (L.drop k) (some ⟨g, o + (k + 1) * 12, none⟩) (cM - (k + 1)) 0 (0 + [((9 : Int), (2 : Int))].length) (by rw [← hMd]; exact hLM.drop (k + 1) g o rfl) hB (by rw [List.length_drop]; omega) (by rw [List.length_drop]; simp; omega) (by rw [List.length_drop]; omega)
    refine hP.mono ?_
    rintro e w' ⟨rfl, n', m', h1, h2, h3⟩
    rw [List.length_drop] at h1 h2
    exact ⟨rfl, n', m', by omega, by simp at h2; omega, h3⟩) (anaC_12T hH) (anaC_12F hH)
  refine hA.mono ?_
  rintro e w' ⟨at', ct, ts, ad, cd, ds, rfl, _, _, hd, hdd, hb⟩
  refine ⟨at', ct, ts.length, ad, cd, ds, ?_, hd, anaC_12F hH ds hd.1, hdd, hb⟩
  rw [anaC_C hH]
theorem analyze0 (w : World) (a : Option Addr) (c : Nat) :
    Calls Try.prog 9 #[.slice a 0 c] w fun e w' => ∃ (at' : Option Addr) (ct : Nat) (ad : Option Addr) (cd : Nat), e = .returned (.tuple #[.slice at' 0 ct, .slice ad 0 cd, .int .i64 0]) ∧ Below w.heap.size w w' := by
  have hA := analyze_gen w ⟨a, 0, c⟩ ⟨noTx, noMap, 0⟩ (fun x1 R bt bd X => by
    have hP := passA_any X [] rfl (LinesAt.nil _ _) (by simp) (by simp) (by simp) (by simp)
    refine hP.mono ?_
    rintro e w' ⟨rfl, n', m', h1, h2, h3⟩
    simp at h1 h2
    exact ⟨rfl, n', m', by omega, by omega, h3⟩) (ana_12T (s := ⟨noTx, noMap, 0⟩) (Y := []) rfl (by simp)) (fun ds hd => by
      cases ds with
      | nil => simp
      | cons x l => have := (hd.2.1 x List.mem_cons_self).2; simp [noMap] at this)
  refine hA.mono ?_
  rintro e w' ⟨at', ct, ts, ad, cd, ds, rfl, ht, _, hd, hdd, hb⟩
  have e1 : ts.length = 0 := by
    obtain ⟨ss, ⟨ks, h1, h2, h3, h4⟩, hp, _⟩ := ht
    cases ks with
    | nil => have := congrArg List.length h2; simp at this; rw [hp.length_eq, this]; first | done | rfl
    | cons q l =>
      have : noTx q ∈ (q :: l).map noTx := List.mem_map.2 ⟨q, List.mem_cons_self, rfl⟩
      rw [h2] at this
      obtain ⟨y, _, e⟩ := List.mem_map.1 this
      cases e
  have e2 : ds.length = 0 := by
    cases ds with
    | nil => rfl
    | cons x l => have := (hd.1.2.1 x List.mem_cons_self).2; simp [noMap] at this
  rw [e1, e2]
  exact ⟨at', ct, ad, cd, rfl, hb⟩
end Go.Proofs.Ytpjppolbkdnkaaa
