/- The document's pool in memory. -/
import Derived.Test.YtifoafiidplpiaaKTop
namespace Go.Proofs.Ytifoafiidplpiaa
open Go.RowKit
set_option linter.unusedVariables false
set_option linter.unusedSimpArgs false

def pageNo (f : Fm) : Int := if f.held = true then f.page else -1
def rCells (f : Fm) : List Value := [.int .i64 (pageNo f), .string (strOf f.bs), .bool f.dirty, .bool f.asked, .int .i64 f.lsn, .int .i64 f.rlsn]
def rowR (fs : List Fm) : List Value := (fs.map rCells).flatten
theorem rows6 (fs : List Fm) : ∀ x ∈ fs.map rCells, x.length = 6 := by
  intro x hx
  obtain ⟨f, _, rfl⟩ := List.mem_map.1 hx
  rfl
theorem rowR_length (fs : List Fm) : (rowR fs).length = fs.length * 6 := by
  unfold rowR
  rw [flat_length 6 _ (rows6 fs), List.length_map]
theorem rowR_get (fs : List Fm) (i : Nat) (f : Fm) (hi : fs[i]? = some f) (k : Nat) (hk : k < 6) : (rowR fs)[i * 6 + k]? = (rCells f)[k]? := by
  obtain ⟨hlt, rfl⟩ := List.getElem?_eq_some_iff.1 hi
  unfold rowR
  rw [flat_get 6 _ (rows6 fs) i (by rw [List.length_map]; exact hlt) k hk, List.getElem_map]
theorem rowR_set1 (fs : List Fm) (i : Nat) (f : Fm) (hi : fs[i]? = some f) (k : Nat) (hk : k < 6) (c : Value) (f' : Fm) (hc : rCells f' = (rCells f).set k c) : (rowR fs).set (i * 6 + k) c = rowR (fs.set i f') := by
  obtain ⟨hlt, rfl⟩ := List.getElem?_eq_some_iff.1 hi
  unfold rowR
  rw [flat_set1 6 c _ (rows6 fs) i (by rw [List.length_map]; exact hlt) k hk, List.getElem_map, ← hc, List.map_set]
theorem rowR_setAll (fs : List Fm) (i : Nat) (hi : i < fs.length) (f' : Fm) (fx : List Value) :
    (rowR fs ++ fx).take (i * 6) ++ rCells f' ++ (rowR fs ++ fx).drop (i * 6 + (rCells f').length) = rowR (fs.set i f') ++ fx := by
  have hl := rowR_length fs
  have h6 : (rCells f').length = 6 := rfl
  rw [List.take_append_of_le_length (by omega), List.drop_append_of_le_length (by omega), ← List.append_assoc]
  congr 1
  unfold rowR
  rw [flat_set 6 _ (rows6 fs) i (by rw [List.length_map]; exact hi) _ rfl, List.map_set]
def diskCells (dk : List (List UInt8)) : List Value := dk.map fun b => .string (strOf b)
def intCells (l : List Int) : List Value := l.map (.int .i64)
theorem length_intCells (l : List Int) : (intCells l).length = l.length := by simp [intCells]
theorem intCells_snoc (l : List Int) (x : Int) : intCells (l ++ [x]) = intCells l ++ [.int .i64 x] := by simp [intCells]

structure RefIs (w : World) (r gD gF cD cF : Nat) (dx fx : List Value) (fov : Value) (S : Pl (List Int)) (bad : Int) : Prop where
  head : w.heap[r]? = some (.cells #[.slice (some ⟨gD, 0, none⟩) 6 cD, .slice (some ⟨gF, 0, none⟩) S.fs.length cF, .int .i64 (S.hand : Int), .int .i64 bad, .int .i64 60, fov, .int .i64 (S.wr : Int)] 60 (0, 0))
  drow : w.heap[gD]? = some (.cells (diskCells S.disk ++ dx).toArray 9 (0, 0))
  frow : w.heap[gF]? = some (.cells (rowR S.fs ++ fx).toArray 63 (0, 0))
  fown : w.ownsRow 0 3 1 fov S.fo.length (intCells S.fo)
  dl : S.disk.length = 6
  n1 : r ≠ gD
  n2 : r ≠ gF
  n3 : gD ≠ gF
  n4 : fov.ownBlock ≠ some r
  n5 : fov.ownBlock ≠ some gD
  n6 : fov.ownBlock ≠ some gF
  f1 : 1 ≤ S.fs.length
  f2 : S.fs.length ≤ 64
  hand : S.hand < S.fs.length
  c6 : 6 ≤ cD
  cF : S.fs.length ≤ cF
def RefFp (r gD gF : Nat) (fov : Value) : List Nat := r :: gD :: gF :: fov.ownBlock.toList
def RefAt (w : World) (r gD gF : Nat) (fp : List Nat) (S : Pl (List Int)) (bad : Int) : Prop := ∃ cD cF dx fx fov, fp = RefFp r gD gF fov ∧ RefIs w r gD gF cD cF dx fx fov S bad
/-- What a call of the document's pool leaves. -/
def RefTo (w w' : World) (r gD gF : Nat) (fp : List Nat) (S : Pl (List Int)) (bad : Int) : Prop := ∃ fp', RefAt w' r gD gF fp' S bad ∧ Off fp w w' ∧ ∀ k ∈ fp', k ∈ fp ∨ w.heap.size ≤ k

section
variable {w w' : World} {r gD gF cD cF : Nat} {dx fx : List Value} {fov : Value} {S : Pl (List Int)} {bad : Int} {fp : List Nat}
theorem RefIs.stay (h : RefIs w r gD gF cD cF dx fx fov S bad) (hk : ∀ k ∈ RefFp r gD gF fov, w'.heap[k]? = w.heap[k]?) : RefIs w' r gD gF cD cF dx fx fov S bad :=
  { h with
    head := (hk r (by simp [RefFp])).trans h.head
    drow := (hk gD (by simp [RefFp])).trans h.drow
    frow := (hk gF (by simp [RefFp])).trans h.frow
    fown := owns_of_block h.fown (fun k hb => hk k (by simp [RefFp, hb])) }
theorem RefIs.lts (h : RefIs w r gD gF cD cF dx fx fov S bad) : ∀ k ∈ RefFp r gD gF fov, k < w.heap.size := fun k hk => by
  simp only [RefFp, List.mem_cons] at hk
  rcases hk with rfl | rfl | rfl | hk
  · exact (Array.getElem?_eq_some_iff.1 h.head).1
  · exact (Array.getElem?_eq_some_iff.1 h.drow).1
  · exact (Array.getElem?_eq_some_iff.1 h.frow).1
  · exact (h.fown.lt k (by simpa using hk)).2
theorem RefAt.stay (h : RefAt w r gD gF fp S bad) (hk : ∀ k ∈ fp, w'.heap[k]? = w.heap[k]?) : RefAt w' r gD gF fp S bad := by
  obtain ⟨cD, cF, dx, fx, fov, rfl, x⟩ := h
  exact ⟨cD, cF, dx, fx, fov, rfl, x.stay hk⟩
theorem RefAt.lts (h : RefAt w r gD gF fp S bad) : ∀ k ∈ fp, k < w.heap.size := by
  obtain ⟨cD, cF, dx, fx, fov, rfl, x⟩ := h
  exact x.lts
theorem RefAt.belowW (h : RefAt w r gD gF fp S bad) (hb : Below w.heap.size w w') : RefAt w' r gD gF fp S bad := h.stay (fun k hk => hb.block k (h.lts k hk))
theorem RefIs.at (h : RefIs w r gD gF cD cF dx fx fov S bad) : RefAt w r gD gF (RefFp r gD gF fov) S bad := ⟨_, _, _, _, _, rfl, h⟩
theorem RefIs.to (h : RefIs w' r gD gF cD cF dx fx fov S bad) (hO : Off (RefFp r gD gF fov) w w') : RefTo w w' r gD gF (RefFp r gD gF fov) S bad := ⟨_, h.at, hO, fun k hk => .inl hk⟩
theorem RefTo.trans {w2 : World} {S2 : Pl (List Int)} (h : RefTo w w' r gD gF fp S bad) (h2 : ∀ fp', RefAt w' r gD gF fp' S bad → RefTo w' w2 r gD gF fp' S2 bad) : RefTo w w2 r gD gF fp S2 bad := by
  obtain ⟨fp1, a1, a2, a3⟩ := h
  obtain ⟨fp2, b1, b2, b3⟩ := h2 fp1 a1
  refine ⟨fp2, b1, a2.trans b2 a3, fun k hk => ?_⟩
  rcases b3 k hk with h4 | h4
  · exact a3 k h4
  · have := a2.size; exact .inr (by omega)
/-! ### Cells -/
theorem RefIs.c0 (h : RefIs w r gD gF cD cF dx fx fov S bad) : w.cell? ⟨r, 0, none⟩ = some (.slice (some ⟨gD, 0, none⟩) 6 cD) := by rw [cell_of_row w r 0 _ _ _ h.head]; rfl
theorem RefIs.c1 (h : RefIs w r gD gF cD cF dx fx fov S bad) : w.cell? ⟨r, 1, none⟩ = some (.slice (some ⟨gF, 0, none⟩) S.fs.length cF) := by rw [cell_of_row w r 1 _ _ _ h.head]; rfl
theorem RefIs.c2 (h : RefIs w r gD gF cD cF dx fx fov S bad) : w.cell? ⟨r, 2, none⟩ = some (.int .i64 (S.hand : Int)) := by rw [cell_of_row w r 2 _ _ _ h.head]; rfl
theorem RefIs.c3 (h : RefIs w r gD gF cD cF dx fx fov S bad) : w.cell? ⟨r, 3, none⟩ = some (.int .i64 bad) := by rw [cell_of_row w r 3 _ _ _ h.head]; rfl
theorem RefIs.c4 (h : RefIs w r gD gF cD cF dx fx fov S bad) : w.cell? ⟨r, 4, none⟩ = some (.int .i64 60) := by rw [cell_of_row w r 4 _ _ _ h.head]; rfl
theorem RefIs.c5 (h : RefIs w r gD gF cD cF dx fx fov S bad) : w.cell? ⟨r, 5, none⟩ = some fov := by rw [cell_of_row w r 5 _ _ _ h.head]; rfl
theorem RefIs.c6' (h : RefIs w r gD gF cD cF dx fx fov S bad) : w.cell? ⟨r, 6, none⟩ = some (.int .i64 (S.wr : Int)) := by rw [cell_of_row w r 6 _ _ _ h.head]; rfl
theorem RefIs.fzR (h : RefIs w r gD gF cD cF dx fx fov S bad) (o : Nat) : w.frozen? ⟨r, o, none⟩ = false := frozen_of_row w r o _ _ h.head
theorem RefIs.fzF (h : RefIs w r gD gF cD cF dx fx fov S bad) (o : Nat) : w.frozen? ⟨gF, o, none⟩ = false := frozen_of_row w gF o _ _ h.frow
theorem RefIs.fzD (h : RefIs w r gD gF cD cF dx fx fov S bad) (o : Nat) : w.frozen? ⟨gD, o, none⟩ = false := frozen_of_row w gD o _ _ h.drow
theorem RefIs.cells (h : RefIs w r gD gF cD cF dx fx fov S bad) (i : Nat) (f : Fm) (hi : S.fs[i]? = some f) : i < S.fs.length ∧ w.cell? ⟨gF, i * 6, none⟩ = some (.int .i64 (pageNo f)) ∧ w.cell? ⟨gF, i * 6 + 1, none⟩ = some (.string (strOf f.bs)) ∧
    w.cell? ⟨gF, i * 6 + 2, none⟩ = some (.bool f.dirty) ∧ w.cell? ⟨gF, i * 6 + 3, none⟩ = some (.bool f.asked) ∧ w.cell? ⟨gF, i * 6 + 4, none⟩ = some (.int .i64 f.lsn) ∧ w.cell? ⟨gF, i * 6 + 5, none⟩ = some (.int .i64 f.rlsn) := by
  have hlt := (List.getElem?_eq_some_iff.1 hi).1
  have hl := rowR_length S.fs
  have key : ∀ k, k < 6 → w.cell? ⟨gF, i * 6 + k, none⟩ = (rCells f)[k]? := fun k hk => by
    rw [cell_of_row w gF _ _ _ _ h.frow, List.getElem?_toArray, List.getElem?_append_left (by omega)]
    exact rowR_get S.fs i f hi k hk
  exact ⟨hlt, key 0 (by omega), key 1 (by omega), key 2 (by omega), key 3 (by omega), key 4 (by omega), key 5 (by omega)⟩
theorem RefIs.dcell (h : RefIs w r gD gF cD cF dx fx fov S bad) (i : Nat) (hi : i < 6) : w.cell? ⟨gD, i, none⟩ = some (.string (strOf (S.disk.getD i []))) := by
  have hd := h.dl
  rw [cell_of_row w gD _ _ _ _ h.drow, List.getElem?_toArray, List.getElem?_append_left (by simp [diskCells, hd, hi])]
  simp [diskCells, hd, hi]
/-! ### Writes -/
theorem RefIs.setF (h : RefIs w r gD gF cD cF dx fx fov S bad) (fs' : List Fm) (hl : fs'.length = S.fs.length) (hO : Off [gF] w w') (hr : w'.heap[gF]? = some (.cells (rowR fs' ++ fx).toArray 63 (0, 0))) : RefIs w' r gD gF cD cF dx fx fov { S with fs := fs' } bad := by
  have hk : ∀ k, k ≠ gF → k ∈ RefFp r gD gF fov → w'.heap[k]? = w.heap[k]? := fun k hn hm => hO.block k (h.lts k hm) (by simpa using hn)
  exact { h with
    head := by rw [hk r h.n2 (by simp [RefFp]), h.head, hl]
    drow := (hk gD h.n3 (by simp [RefFp])).trans h.drow
    frow := hr
    fown := owns_of_block h.fown (fun k hb => hk k (fun e => h.n6 (by rw [← e]; exact hb)) (by simp [RefFp, hb]))
    f1 := by rw [hl]; exact h.f1
    f2 := by rw [hl]; exact h.f2
    hand := by rw [hl]; exact h.hand
    cF := by rw [hl]; exact h.cF }
/-- One cell of a frame. -/
theorem RefIs.setK (h : RefIs w r gD gF cD cF dx fx fov S bad) (i : Nat) (f : Fm) (hf : S.fs[i]? = some f) (k : Nat) (c : Value) (f' : Fm) (hk : k < 6) (hc : rCells f' = (rCells f).set k c) : RefIs (w.setCell ⟨gF, i * 6 + k, none⟩ c) r gD gF cD cF dx fx fov { S with fs := S.fs.set i f' } bad := by
  have hlt := (List.getElem?_eq_some_iff.1 hf).1
  have hl := rowR_length S.fs
  refine h.setF (S.fs.set i f') (by simp) ((Off.refl _ _).setCell _ _ (by simp)) ?_
  rw [heap_setCell_same _ gF _ _ _ _ h.frow, List.setIfInBounds_toArray, List.set_append_left _ _ (by omega), rowR_set1 S.fs i f hf k hk c f' hc]
theorem Try.size63 {s : List Value} (h : s.length = 6) : (Try.prog.info? 63).map (·.size) = some s.length := by rw [h]; kernel_rfl
/-- A whole frame. -/
theorem RefIs.storeAll (h : RefIs w r gD gF cD cF dx fx fov S bad) (i : Nat) (hi : i < S.fs.length) (f' : Fm) :
    ∃ w', (Instr.storeAt 63 (.pointer (some ⟨gF, i * 6, none⟩)) (.agg (rCells f').toArray)).run Try.prog w = .ok () w' ∧ RefIs w' r gD gF cD cF dx fx fov { S with fs := S.fs.set i f' } bad ∧ Off [gF] w w' := by
  have hl := rowR_length S.fs
  have h1 : ∀ v ∈ rCells f', v.oneCell' = true := by
    intro v hv
    simp only [rCells, List.mem_cons, List.not_mem_nil, or_false] at hv
    rcases hv with rfl | rfl | rfl | rfl | rfl | rfl <;> rfl
  have hO : Off [gF] w (w.setRow gF ((rowR S.fs ++ fx).toArray.toList.take (i * 6) ++ rCells f' ++ (rowR S.fs ++ fx).toArray.toList.drop (i * 6 + (rCells f').length)).toArray) := (Off.refl _ w).setRow _ _ (.inl (by simp))
  refine ⟨_, run_storeAt_in w gF (i * 6) 63 63 _ (rCells f') h.frow (by show i * 6 + 6 ≤ _; rw [List.size_toArray, List.length_append, hl]; omega) (Try.size63 rfl) h1, ?_, hO⟩
  refine h.setF (S.fs.set i f') (by simp) hO ?_
  rw [setRow_heap _ _ _ _ _ _ h.frow]
  rw [rowR_setAll S.fs i hi f' fx]
theorem RefIs.setH (h : RefIs w r gD gF cD cF dx fx fov S bad) (hand wr : Nat) (hO : Off [r] w w') (hr : w'.heap[r]? = some (.cells #[.slice (some ⟨gD, 0, none⟩) 6 cD, .slice (some ⟨gF, 0, none⟩) S.fs.length cF, .int .i64 (hand : Int), .int .i64 bad, .int .i64 60, fov, .int .i64 (wr : Int)] 60 (0, 0)))
    (hh : hand < S.fs.length) : RefIs w' r gD gF cD cF dx fx fov { S with hand := hand, wr := wr } bad := by
  have hk : ∀ k, k ≠ r → k ∈ RefFp r gD gF fov → w'.heap[k]? = w.heap[k]? := fun k hn hm => hO.block k (h.lts k hm) (by simpa using hn)
  exact { h with
    head := hr
    drow := (hk gD (Ne.symm h.n1) (by simp [RefFp])).trans h.drow
    frow := (hk gF (Ne.symm h.n2) (by simp [RefFp])).trans h.frow
    fown := owns_of_block h.fown (fun k hb => hk k (fun e => h.n4 (by rw [← e]; exact hb)) (by simp [RefFp, hb]))
    hand := hh }
theorem RefIs.setD (h : RefIs w r gD gF cD cF dx fx fov S bad) (i : Nat) (hi : i < 6) (b : List UInt8) : RefIs (w.setCell ⟨gD, i, none⟩ (.string (strOf b))) r gD gF cD cF dx fx fov { S with disk := S.disk.set i b } bad := by
  have hO : Off [gD] w (w.setCell ⟨gD, i, none⟩ (.string (strOf b))) := (Off.refl _ _).setCell _ _ (by simp)
  have hk : ∀ k, k ≠ gD → k ∈ RefFp r gD gF fov → (w.setCell ⟨gD, i, none⟩ (.string (strOf b))).heap[k]? = w.heap[k]? := fun k hn hm => hO.block k (h.lts k hm) (by simpa using hn)
  have hd := h.dl
  exact { h with
    head := (hk r h.n1 (by simp [RefFp])).trans h.head
    drow := by rw [heap_setCell_same _ gD _ _ _ _ h.drow, List.setIfInBounds_toArray, List.set_append_left _ _ (by simp [diskCells, hd, hi])]; simp [diskCells, List.map_set]
    frow := (hk gF (Ne.symm h.n3) (by simp [RefFp])).trans h.frow
    fown := owns_of_block h.fown (fun k hb => hk k (fun e => h.n5 (by rw [← e]; exact hb)) (by simp [RefFp, hb]))
    dl := by simp [hd] }
theorem offR {Z : List Nat} (hO : Off Z w w') (hZ : ∀ k ∈ Z, k ∈ RefFp r gD gF fov) : Off (RefFp r gD gF fov) w w' := hO.mono hZ
end
end Go.Proofs.Ytifoafiidplpiaa
