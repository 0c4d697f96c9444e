/- How the document's own device lies in memory: rows of strings, and of pairs of a number and a string. -/
import Derived.Test.YtkdlggobbkedmaaFIn
namespace Go.Proofs.Ytkdlggobbkedmaa
open Go.RowKit
set_option linter.unusedVariables false
set_option linter.unusedSimpArgs false

def strCell (s : List UInt8) : Value := .string (strOf s)
def strRow (L : List (List UInt8)) : List Value := L.map strCell
def pairOf (x : Nat × List UInt8) : List Value := [.int .i64 (x.1 : Int), strCell x.2]
def strEnts (W : List (Nat × List UInt8)) : List Value := (W.map pairOf).flatten
theorem one_strRow (L : List (List UInt8)) : ∀ v ∈ strRow L, v.oneCell' = true := by
  intro v hv
  obtain ⟨b, _, rfl⟩ := List.mem_map.1 hv
  rfl
theorem one_pairOf (x : Nat × List UInt8) : ∀ v ∈ pairOf x, v.oneCell' = true := by
  intro v hv
  rcases (by simpa [pairOf] using hv : v = _ ∨ v = _) with rfl | rfl <;> rfl
theorem one_strEnts (W : List (Nat × List UInt8)) : ∀ v ∈ strEnts W, v.oneCell' = true := fun u hu => by
  obtain ⟨l, hl, hu⟩ := List.mem_flatten.1 hu
  obtain ⟨s, _, rfl⟩ := List.mem_map.1 hl
  exact one_pairOf s u hu
theorem pairs_len (W : List (Nat × List UInt8)) : ∀ x ∈ W.map pairOf, x.length = 2 := by
  intro x hx
  obtain ⟨s, _, rfl⟩ := List.mem_map.1 hx
  rfl

structure RefIs (w : World) (p : Nat) (fp : List Nat) (D : Dv) (lv cv : Value) : Prop where
  head : w.heap[p]? = some (.cells #[lv, cv, .int .i64 D.fuse, .bool D.dead, .int .i64 D.calls] 57 (0, 0))
  row : w.ownsRow 0 9 1 lv D.L.length (strRow D.L)
  cache : w.ownsRow 0 83 2 cv D.W.length (strEnts D.W)
  ne1 : lv.ownBlock ≠ some p
  ne2 : cv.ownBlock ≠ some p
  ne3 : ∀ k, lv.ownBlock = some k → cv.ownBlock ≠ some k
  inP : p ∈ fp
  inL : ∀ k, lv.ownBlock = some k → k ∈ fp
  inC : ∀ k, cv.ownBlock = some k → k ∈ fp
  lim : ∀ k ∈ fp, k < w.heap.size
def RefAt (w : World) (p : Nat) (fp : List Nat) (D : Dv) : Prop := ∃ lv cv, RefIs w p fp D lv cv

section
variable {w w' : World} {p : Nat} {fp : List Nat} {D : Dv} {lv cv : Value}
theorem RefIs.c0 (h : RefIs w p fp D lv cv) : w.cell? ⟨p, 0, none⟩ = some lv := by rw [cell_of_row w p 0 _ _ _ h.head]; rfl
theorem RefIs.c1 (h : RefIs w p fp D lv cv) : w.cell? ⟨p, 1, none⟩ = some cv := by rw [cell_of_row w p 1 _ _ _ h.head]; rfl
theorem RefIs.c2 (h : RefIs w p fp D lv cv) : w.cell? ⟨p, 2, none⟩ = some (.int .i64 D.fuse) := by rw [cell_of_row w p 2 _ _ _ h.head]; rfl
theorem RefIs.c3 (h : RefIs w p fp D lv cv) : w.cell? ⟨p, 3, none⟩ = some (.bool D.dead) := by rw [cell_of_row w p 3 _ _ _ h.head]; rfl
theorem RefIs.c4 (h : RefIs w p fp D lv cv) : w.cell? ⟨p, 4, none⟩ = some (.int .i64 D.calls) := by rw [cell_of_row w p 4 _ _ _ h.head]; rfl
theorem RefIs.fz (h : RefIs w p fp D lv cv) (o : Nat) : w.frozen? ⟨p, o, none⟩ = false := frozen_of_row w p o _ _ h.head
theorem RefIs.lt (h : RefIs w p fp D lv cv) : p < w.heap.size := (Array.getElem?_eq_some_iff.1 h.head).1
theorem RefIs.stay (h : RefIs w p fp D lv cv) (hs : w.heap.size ≤ w'.heap.size) (hb : ∀ k, (k = p ∨ lv.ownBlock = some k ∨ cv.ownBlock = some k) → w'.heap[k]? = w.heap[k]?) : RefIs w' p fp D lv cv :=
  ⟨by rw [hb p (.inl rfl)]; exact h.head, owns_of_block h.row (fun k hk => hb k (.inr (.inl hk))), owns_of_block h.cache (fun k hk => hb k (.inr (.inr hk))), h.ne1, h.ne2, h.ne3, h.inP, h.inL, h.inC, fun k hk => Nat.lt_of_lt_of_le (h.lim k hk) hs⟩
theorem RefIs.below (h : RefIs w p fp D lv cv) (hb : Below w.heap.size w w') : RefIs w' p fp D lv cv :=
  h.stay hb.size fun k hk => hb.block k (by rcases hk with rfl | hk | hk; exact h.lt; exact (h.row.lt k hk).2; exact (h.cache.lt k hk).2)
theorem RefIs.apart (h : RefIs w p fp D lv cv) {fq : List Nat} (ho : Off fq w w') (hd : ∀ k ∈ fp, k ∉ fq) : RefIs w' p fp D lv cv :=
  h.stay ho.size fun k hk => by
    rcases hk with rfl | hk | hk
    · exact ho.block _ h.lt (hd _ h.inP)
    · exact ho.block _ (h.row.lt k hk).2 (hd _ (h.inL k hk))
    · exact ho.block _ (h.cache.lt k hk).2 (hd _ (h.inC k hk))
theorem RefAt.apart (h : RefAt w p fp D) {fq : List Nat} (ho : Off fq w w') (hd : ∀ k ∈ fp, k ∉ fq) : RefAt w' p fp D :=
  let ⟨_, _, x⟩ := h; ⟨_, _, x.apart ho hd⟩
theorem RefAt.below (h : RefAt w p fp D) (hb : Below w.heap.size w w') : RefAt w' p fp D :=
  let ⟨_, _, x⟩ := h; ⟨_, _, x.below hb⟩
theorem RefAt.lim (h : RefAt w p fp D) : ∀ k ∈ fp, k < w.heap.size :=
  let ⟨_, _, x⟩ := h; x.lim
/-- A head with other numbers. -/
theorem RefIs.heads (h : RefIs w p fp D lv cv) (j : Nat) (v : Value) (D' : Dv) (hL : D'.L = D.L) (hW : D'.W = D.W)
    (hc : (#[lv, cv, .int .i64 D.fuse, .bool D.dead, .int .i64 D.calls] : Array Value).setIfInBounds j v = #[lv, cv, .int .i64 D'.fuse, .bool D'.dead, .int .i64 D'.calls]) :
    RefIs (w.setCell ⟨p, j, none⟩ v) p fp D' lv cv := by
  have hh := heap_setCell_same w p j _ _ v h.head
  rw [hc] at hh
  refine ⟨hh, ?_, ?_, h.ne1, h.ne2, h.ne3, h.inP, h.inL, h.inC, fun k hk => by simpa [World.setCell] using h.lim k hk⟩
  · rw [hL]
    exact owns_of_block h.row (fun k hk => heap_setCell_other w _ k v (fun e => h.ne1 (by rw [hk]; exact congrArg some e)))
  · rw [hW]
    exact owns_of_block h.cache (fun k hk => heap_setCell_other w _ k v (fun e => h.ne2 (by rw [hk]; exact congrArg some e)))
/-- The cache is dropped. -/
theorem RefIs.drop (h : RefIs w p fp D lv cv) : RefIs (w.setCell ⟨p, 1, none⟩ (.slice none 0 0)) p fp { D with W := [] } lv (.slice none 0 0) := by
  have hh := heap_setCell_same w p 1 _ _ (.slice none 0 0) h.head
  refine ⟨hh, ?_, World.ownsRow_nil _ _ _ _, h.ne1, by simp [Value.ownBlock], fun k hk => by simp [Value.ownBlock], h.inP, h.inL, fun k hk => by simp [Value.ownBlock] at hk, fun k hk => by simpa [World.setCell] using h.lim k hk⟩
  exact owns_of_block h.row (fun k hk => heap_setCell_other w _ k _ (fun e => h.ne1 (by rw [hk]; exact congrArg some e)))
/-- The rows' own forms. -/
theorem RefIs.formC (h : RefIs w p fp D lv cv) : (cv = .slice none 0 0 ∧ D.W = []) ∨ ∃ cb c, cv = .slice (some ⟨cb, 0, none⟩) D.W.length c := by
  rcases h.cache.2 with ⟨h1, h2⟩ | ⟨g, cap, cur, h1, _⟩
  · exact .inl ⟨h1, List.eq_nil_of_length_eq_zero h2⟩
  · exact .inr ⟨g, cap, h1⟩
theorem RefIs.formL (h : RefIs w p fp D lv cv) (hp : 1 ≤ D.L.length) : ∃ lb c, lv = .slice (some ⟨lb, 0, none⟩) D.L.length c := by
  rcases h.row.2 with ⟨h1, h2⟩ | ⟨g, cap, cur, h1, _⟩
  · omega
  · exact ⟨g, cap, h1⟩
theorem RefIs.strAt {lb c : Nat} (h : RefIs w p fp D (.slice (some ⟨lb, 0, none⟩) D.L.length c) cv) (i : Nat) (hi : i < D.L.length) : w.cell? ⟨lb, i, none⟩ = some (.string (strOf D.L[i])) := by
  have := h.row.cells rfl i (strCell D.L[i]) (by simp [strRow, hi])
  rwa [Addr.add_mid, Nat.zero_add] at this
theorem RefIs.entAt {cb c : Nat} (h : RefIs w p fp D lv (.slice (some ⟨cb, 0, none⟩) D.W.length c)) (i : Nat) (hi : i < D.W.length) :
    w.cell? ⟨cb, i * 2, none⟩ = some (.int .i64 (D.W[i].1 : Int)) ∧ w.cell? ⟨cb, i * 2 + 1, none⟩ = some (.string (strOf D.W[i].2)) := by
  have hg : ∀ j, j < 2 → (strEnts D.W)[i * 2 + j]? = (pairOf D.W[i])[j]? := fun j hj => by
    unfold strEnts
    rw [flat_get 2 _ (pairs_len D.W) i (by simpa using hi) j hj]
    simp
  have h0 := h.cache.cells rfl (i * 2) _ (by rw [show i * 2 = i * 2 + 0 by omega, hg 0 (by omega)]; rfl)
  have h1 := h.cache.cells rfl (i * 2 + 1) _ (by rw [hg 1 (by omega)]; rfl)
  rw [Addr.add_mid, Nat.zero_add] at h0 h1
  exact ⟨h0, h1⟩
/-- The row of sectors has grown by one. -/
theorem RefIs.grewL {w5 w6 : World} {v' : Value} {s : List UInt8} (h : RefIs w5 p fp D lv cv) (ho : w6.ownsRow 0 9 1 v' (D.L.length + 1) (strRow D.L ++ [.string (strOf s)])) (hg : w5.grownBy w6 lv.ownBlock) (hfr : ∀ k, v'.ownBlock = some k → lv.ownBlock = some k ∨ w5.heap.size ≤ k) :
    RefIs (w6.setCell ⟨p, 0, none⟩ v') p (fp ++ v'.ownBlock.toList) { D with L := D.L ++ [s] } v' cv ∧ Off fp w5 (w6.setCell ⟨p, 0, none⟩ v') ∧ ∀ k ∈ fp ++ v'.ownBlock.toList, k ∈ fp ∨ w5.heap.size ≤ k := by
  have hp6 : w6.heap[p]? = w5.heap[p]? := hg.block p h.lt (fun e => h.ne1 e.symm)
  have n1 : v'.ownBlock ≠ some p := fun e => by
    rcases hfr p e with h1 | h1
    · exact h.ne1 h1
    · have := h.lt; omega
  have n3 : ∀ k, v'.ownBlock = some k → cv.ownBlock ≠ some k := fun k hk hc => by
    rcases hfr k hk with h1 | h1
    · exact h.ne3 k h1 hc
    · have := (h.cache.lt k hc).2; omega
  have hh := heap_setCell_same w6 p 0 _ _ v' (hp6.trans h.head)
  refine ⟨⟨hh, ?_, ?_, n1, h.ne2, n3, by simp [h.inP], fun k hk => by simp [hk], fun k hk => by simp [h.inC k hk], ?_⟩, ?_, ?_⟩
  · have he : strRow (D.L ++ [s]) = strRow D.L ++ [.string (strOf s)] := by simp [strRow, strCell]
    rw [he]
    show World.ownsRow _ 0 9 1 v' (D.L ++ [s]).length _
    rw [List.length_append, List.length_singleton]
    exact owns_of_block ho (fun k hk => heap_setCell_other w6 _ k v' (fun e => n1 (by rw [hk]; exact congrArg some e)))
  · exact owns_of_block h.cache (fun k hk => by
      rw [heap_setCell_other w6 _ k v' (fun e => h.ne2 (by rw [hk]; exact congrArg some e))]
      exact hg.block k (h.cache.lt k hk).2 (fun e => h.ne3 k e.symm hk))
  · intro k hk
    have hs : (w6.setCell ⟨p, 0, none⟩ v').heap.size = w6.heap.size := by simp [World.setCell]
    rw [hs]
    rcases List.mem_append.1 hk with hk | hk
    · exact Nat.lt_of_lt_of_le (h.lim k hk) hg.size
    · exact (ho.lt k (by simpa using hk)).2
  · exact ((Off.refl fp w5).grown hg (fun k hk => .inl (h.inL k hk))).setCell _ _ (.inl h.inP)
  · intro k hk
    rcases List.mem_append.1 hk with hk | hk
    · exact .inl hk
    · rcases hfr k (by simpa using hk) with h1 | h1
      · exact .inl (h.inL k h1)
      · exact .inr h1
/-- The cache has grown by one write. -/
theorem RefIs.grewW {w5 w6 : World} {v' : Value} {i : Nat} {bs : List UInt8} (h : RefIs w5 p fp D lv cv) (ho : w6.ownsRow 0 83 2 v' (D.W.length + 1) (strEnts D.W ++ [.int .i64 (i : Int), .string (strOf bs)])) (hg : w5.grownBy w6 cv.ownBlock) (hfr : ∀ k, v'.ownBlock = some k → cv.ownBlock = some k ∨ w5.heap.size ≤ k) :
    RefIs (w6.setCell ⟨p, 1, none⟩ v') p (fp ++ v'.ownBlock.toList) { D with W := D.W ++ [(i, bs)] } lv v' ∧ Off fp w5 (w6.setCell ⟨p, 1, none⟩ v') ∧ ∀ k ∈ fp ++ v'.ownBlock.toList, k ∈ fp ∨ w5.heap.size ≤ k := by
  have hp6 : w6.heap[p]? = w5.heap[p]? := hg.block p h.lt (fun e => h.ne2 e.symm)
  have n2 : v'.ownBlock ≠ some p := fun e => by
    rcases hfr p e with h1 | h1
    · exact h.ne2 h1
    · have := h.lt; omega
  have n3 : ∀ k, lv.ownBlock = some k → v'.ownBlock ≠ some k := fun k hk hc => by
    rcases hfr k hc with h1 | h1
    · exact h.ne3 k hk h1
    · have := (h.row.lt k hk).2; omega
  have hh := heap_setCell_same w6 p 1 _ _ v' (hp6.trans h.head)
  refine ⟨⟨hh, ?_, ?_, h.ne1, n2, n3, by simp [h.inP], fun k hk => by simp [h.inL k hk], fun k hk => by simp [hk], ?_⟩, ?_, ?_⟩
  · exact owns_of_block h.row (fun k hk => by
      rw [heap_setCell_other w6 _ k v' (fun e => h.ne1 (by rw [hk]; exact congrArg some e))]
      exact hg.block k (h.row.lt k hk).2 (fun e => h.ne3 k hk e.symm))
  · have he : strEnts (D.W ++ [(i, bs)]) = strEnts D.W ++ [.int .i64 (i : Int), .string (strOf bs)] := by simp [strEnts, pairOf, strCell]
    rw [he]
    show World.ownsRow _ 0 83 2 v' (D.W ++ [(i, bs)]).length _
    rw [List.length_append, List.length_singleton]
    exact owns_of_block ho (fun k hk => heap_setCell_other w6 _ k v' (fun e => n2 (by rw [hk]; exact congrArg some e)))
  · intro k hk
    have hs : (w6.setCell ⟨p, 1, none⟩ v').heap.size = w6.heap.size := by simp [World.setCell]
    rw [hs]
    rcases List.mem_append.1 hk with hk | hk
    · exact Nat.lt_of_lt_of_le (h.lim k hk) hg.size
    · exact (ho.lt k (by simpa using hk)).2
  · exact ((Off.refl fp w5).grown hg (fun k hk => .inl (h.inC k hk))).setCell _ _ (.inl h.inP)
  · intro k hk
    rcases List.mem_append.1 hk with hk | hk
    · exact .inl hk
    · rcases hfr k (by simpa using hk) with h1 | h1
      · exact .inl (h.inC k h1)
      · exact .inr h1
end

set_option maxHeartbeats 400000 in
theorem rburn_dies (p : Nat) (w : World) (u : Value) (h2 : w.cell? ⟨p, 2, none⟩ = some (.int .i64 0)) (h3 : w.cell? ⟨p, 3, none⟩ = some u) (f3 : w.frozen? ⟨p, 3, none⟩ = false) :
    Calls Try.prog 41 #[.pointer (some ⟨p, 0, none⟩)] w fun e w' => e = .returned (.int .i64 50) ∧ w' = w.setCell ⟨p, 3, none⟩ (.bool true) := by
  go_enter Try.func41, Try.ntmps41
  go_wp2
  go_ret
  exact ⟨rfl, rfl⟩
set_option maxHeartbeats 400000 in
theorem rburn_less (p : Nat) (w : World) (k : Int) (hk : 0 < k) (hk' : k ≤ 9223372036854775807) (h2 : w.cell? ⟨p, 2, none⟩ = some (.int .i64 k)) (f2 : w.frozen? ⟨p, 2, none⟩ = false) :
    Calls Try.prog 41 #[.pointer (some ⟨p, 0, none⟩)] w fun e w' => e = .returned (.int .i64 0) ∧ w' = w.setCell ⟨p, 2, none⟩ (.int .i64 (k - 1)) := by
  have hz : (k == 0) = false := beq_eq_false_iff_ne.2 (by omega)
  go_enter Try.func41, Try.ntmps41
  go_wp2
  go_ret
  exact ⟨rfl, rfl⟩
set_option maxHeartbeats 400000 in
theorem rburn_none (p : Nat) (w : World) (k : Int) (hk : k < 0) (h2 : w.cell? ⟨p, 2, none⟩ = some (.int .i64 k)) :
    Calls Try.prog 41 #[.pointer (some ⟨p, 0, none⟩)] w fun e w' => e = .returned (.int .i64 0) ∧ w' = w := by
  have hz : (k == 0) = false := beq_eq_false_iff_ne.2 (by omega)
  go_enter Try.func41, Try.ntmps41
  go_wp2
  go_ret
  exact ⟨rfl, rfl⟩
theorem rburn_ok (p : Nat) (w : World) (fp : List Nat) (D : Dv) (lv cv : Value) (h : RefIs w p fp D lv cv) (hf : D.fuse ≠ 0) (hm : D.fuse ≤ 9223372036854775807) :
    Calls Try.prog 41 #[.pointer (some ⟨p, 0, none⟩)] w fun e w' => e = .returned (.int .i64 0) ∧ RefIs w' p fp D.burnt lv cv ∧ Off [p] w w' := by
  by_cases h0 : 0 < D.fuse
  · refine (rburn_less p w _ h0 hm h.c2 (h.fz 2)).mono ?_
    rintro e w' ⟨rfl, rfl⟩
    exact ⟨rfl, h.heads 2 _ D.burnt rfl rfl (by simp [Dv.burnt, h0]), (Off.refl _ w).setCell _ _ (.inl (by simp))⟩
  · refine (rburn_none p w _ (by omega) h.c2).mono ?_
    rintro e w' ⟨rfl, rfl⟩
    have : D.burnt = D := by simp [Dv.burnt, h0]
    rw [this]
    exact ⟨rfl, h, Off.refl _ _⟩
set_option maxHeartbeats 400000 in
set_option maxRecDepth 100000 in
theorem blank_any (w : World) : Calls Try.prog 32 #[] w fun e w' => e = .returned (.string (strOf zeros)) ∧ Below w.heap.size w w' := by
  have hmk := make128
  have hs : (convert 31 9 (.slice (some ⟨w.heap.size, 0, none⟩) 128 128)).run Try.prog (w.alloc (.cells (secPart 0 0 0) 5)) = .ok (.string (strOf zeros)) (w.alloc (.cells (secPart 0 0 0) 5)) :=
    run_str _ _ _ _ zeros length_zeros (by rw [heap_alloc_new, secPart_zero]; rfl)
  go_enter Try.func32, Try.ntmps32
  go_wp2
  go_ret
  exact ⟨rfl, (Below.refl _ _).alloc (Nat.le_refl _) _⟩
end Go.Proofs.Ytkdlggobbkedmaa
