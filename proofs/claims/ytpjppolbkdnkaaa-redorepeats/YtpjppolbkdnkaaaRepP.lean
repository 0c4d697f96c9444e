/- RedoRepeats: its pure side, and rows that are read. -/
import Derived.Test.YtpjppolbkdnkaaaRefR
import Derived.Test.YtpjppolbkdnkaaaROpen
namespace Go.Proofs.Ytpjppolbkdnkaaa
open Go.RowKit
set_option linter.unusedVariables false
set_option linter.unusedSimpArgs false

def DRis (D : List (Int × Int)) (k : Nat) : Prop := ∀ (i : Nat) (x y : Int × Int), i + 1 < k → D[i]? = some x → D[i + 1]? = some y → x.1 < y.1
theorem DRis.all {D : List (Int × Int)} (h : DRis D D.length) : ∀ (i j : Nat) (x y : Int × Int), D[i]? = some x → D[j]? = some y → i < j → x.1 < y.1 := by
  have key : ∀ (d i : Nat) (x y : Int × Int), D[i]? = some x → D[i + d + 1]? = some y → x.1 < y.1 := by
    intro d
    induction d with
    | zero => intro i x y hx hy; exact h i x y (List.getElem?_eq_some_iff.1 hy).1 hx hy
    | succ d ih =>
      intro i x y hx hy
      have hl := (List.getElem?_eq_some_iff.1 hy).1
      obtain ⟨z, hz⟩ : ∃ z, D[i + d + 1]? = some z := ⟨_, List.getElem?_eq_getElem (by omega)⟩
      have h1 := ih i x z hx hz
      have h2 := h (i + d + 1) z y (by omega) hz hy
      omega
  intro i j x y hx hy hij
  exact key (j - i - 1) i x y hx (by rw [show i + (j - i - 1) + 1 = j by omega]; exact hy)
def pagesP (l : List Int) (k : Nat) : List (Int × Int) := (List.range k).map (fun (i : Nat) => ((i : Int), l.getD i 0))
theorem pagesP_len (l : List Int) (k : Nat) : (pagesP l k).length = k := by simp [pagesP]
theorem pagesP_succ (l : List Int) (k : Nat) (v : Int) (h : l[k]? = some v) : pagesP l (k + 1) = pagesP l k ++ [((k : Int), v)] := by
  unfold pagesP
  rw [List.range_succ, List.map_append]
  simp [h]
theorem pagesP_once (l : List Int) : ∀ k, Once (pagesP l k)
  | 0 => by simp [Once, pagesP]
  | k + 1 => by
    have ih := pagesP_once l k
    unfold Once pagesP at ih ⊢
    rw [List.range_succ, List.map_append, List.map_append, List.nodup_append]
    refine ⟨ih, by simp, fun a ha b hb => ?_⟩
    rw [List.map_map] at ha
    obtain ⟨i, hi, rfl⟩ := List.mem_map.1 ha
    rw [List.mem_range] at hi
    simp at hb
    subst hb
    simp only [Function.comp]
    omega
theorem pagesP_knows (l : List Int) (A : Ask) (hA : A.f = pageLsn l) : Knows A (pagesP l l.length) noMap where
  once := pagesP_once l _
  same := fun p => by
    have hon := pagesP_once l l.length
    show _ = A.f p
    rw [hA]
    unfold pageLsn
    by_cases h0 : p < 0
    · rw [if_pos h0, look_none]
      · rfl
      · intro d hd
        unfold pagesP at hd
        obtain ⟨i, _, rfl⟩ := List.mem_map.1 hd
        simp only
        omega
    · rw [if_neg h0]
      cases hv : l[p.toNat]? with
      | none =>
        have := List.getElem?_eq_none_iff.1 hv
        rw [look_none _ _ (fun d hd => ?_)]
        · skip
          unfold pagesP at hd
          obtain ⟨i, hi, rfl⟩ := List.mem_map.1 hd
          rw [List.mem_range] at hi
          simp only
          omega
      | some v =>
        have hl := (List.getElem?_eq_some_iff.1 hv).1
        have hat : (pagesP l l.length)[p.toNat]? = some (p, v) := by
          unfold pagesP
          rw [List.getElem?_map, List.getElem?_range hl]
          simp [hv]
          omega
        rw [look_at _ hon _ _ hat]
/-- Both tell the same. -/
theorem redo_ref (A : Ask) (l : List Int) (hA : A.f = pageLsn l) (D : List (Int × Int)) (hr : DRis D D.length) (L : List Ln) : (refN D (pagesP l l.length, []) L).2 = redoOf A D L := by
  unfold redoOf
  refine againN_ref A D _ (fun p => ?_) L _ _ _ (pagesP_knows l A hA)
  have := soil_last D hr.all p D.length (Nat.le_refl _)
  rwa [List.take_length] at this
theorem int_cells {w : World} {base : Nat} {g c : Nat} {l : List Int} (h : w.ownsRow base 3 1 (.slice (some ⟨g, 0, none⟩) l.length c) l.length (intCells l)) (i : Nat) (x : Int) (hx : l[i]? = some x) : w.cell? ⟨g, i, none⟩ = some (.int .i64 x) := by
  have hi := (List.getElem?_eq_some_iff.1 hx).1
  obtain ⟨g', c', cur, e, _, hg, _, _, _, ht⟩ := own_some h (by omega)
  injection e with e1 e2 e3
  injection e1 with e1
  injection e1 with e1 _
  subst e1
  have a1 : (intCells l)[i]? = some (.int .i64 x) := by unfold intCells; rw [List.getElem?_map, hx]; rfl
  rw [← ht, List.getElem?_take, if_pos (by omega)] at a1
  rw [cell_of_row _ _ _ _ _ _ hg]; simpa using a1
theorem lines_of_row {w : World} {base : Nat} {ao : Option Addr} {c : Nat} {L : List Ln} (h : w.ownsRow base 84 12 (.slice ao L.length c) L.length (lnRow L)) (hok : ∀ x ∈ L, x.ok) (hl : L.length ≤ 100) : LinesAt w ao L := by
  refine ⟨by omega, fun i x hx => ⟨hok x (List.mem_of_getElem? hx), ?_⟩⟩
  have hi := (List.getElem?_eq_some_iff.1 hx).1
  obtain ⟨g, c', cur, e, _, hg, h1, _, h3, ht⟩ := own_some h (by omega)
  injection e with e1 e2 e3
  subst e1
  refine ⟨g, 0, rfl, (Array.getElem?_eq_some_iff.1 hg).1, fun j v hv => ?_⟩
  have hj := (List.getElem?_eq_some_iff.1 hv).1
  have hj : j < 12 := by simpa [lnCells, recCells] using hj
  have hfl : ∀ y ∈ L.map lnCells, y.length = 12 := fun y hy => by obtain ⟨z, _, rfl⟩ := List.mem_map.1 hy; rfl
  have h0 := flat_get 12 (L.map lnCells) hfl i (by rw [List.length_map]; exact hi) j hj
  have hx' := (List.getElem?_eq_some_iff.1 hx).2
  rw [List.getElem_map, hx', hv] at h0
  have hrow : (lnRow L)[i * 12 + j]? = some v := by unfold lnRow; rw [List.flatMap_def]; exact h0
  rw [← ht, List.getElem?_take, if_pos (by omega)] at hrow
  rw [Nat.zero_add, cell_of_row _ _ _ _ _ _ hg]
  simpa using hrow
theorem DirtsIn.at {w w' : World} {a : Option Addr} {D : List (Int × Int)} (h : DirtsIn w a D) (h64 : ∀ q ∈ D, In64 q.1 ∧ In64 q.2) (hl : D.length ≤ 1000000) (hb : Below w.heap.size w w') : DirtsAt w' a D :=
  ⟨hl, fun i x hx => by
    obtain ⟨b, o, h1, h2, h3⟩ := h i x hx
    exact ⟨(h64 x (List.mem_of_getElem? hx)).1, (h64 x (List.mem_of_getElem? hx)).2, b, o, h1, Nat.lt_of_lt_of_le h2 hb.size, fun j v hv => (hb.cell (p := ⟨b, o + i * 2 + j, none⟩) h2).trans (h3 j v hv)⟩⟩
theorem LinesIn.belowI {w w' : World} {a : Option Addr} {L : List Ln} (h : LinesIn w a L) (hb : Below w.heap.size w w') : LinesIn w' a L := fun i x hx => by
  obtain ⟨h0, b, o, h1, h2, h3⟩ := h i x hx
  exact ⟨h0, b, o, h1, Nat.lt_of_lt_of_le h2 hb.size, fun j v hv => (hb.cell (p := ⟨b, o + i * 12 + j, none⟩) h2).trans (h3 j v hv)⟩
theorem IntsIn.at {w w' : World} {a : Option Addr} {l : List Int} (h : IntsIn w a l) (hl : l.length ≤ 1000000) (hb : Below w.heap.size w w') : IntsAt w' a l :=
  ⟨hl, fun i v hv => by
    obtain ⟨h0, b, o, h1, h2, h3⟩ := h i v hv
    exact ⟨h0, b, o, h1, Nat.lt_of_lt_of_le h2 hb.size, (hb.cell (p := ⟨b, o + i, none⟩) h2).trans h3⟩⟩
end Go.Proofs.Ytpjppolbkdnkaaa
