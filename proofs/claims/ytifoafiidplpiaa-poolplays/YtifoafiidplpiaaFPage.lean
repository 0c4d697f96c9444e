/- The law's own pages; bytes as strings; a device that is well. -/
import Derived.Test.YtifoafiidplpiaaFFile
import Derived.Laws.BytesString
namespace Go.Proofs.Ytifoafiidplpiaa
open Go.RowKit
set_option linter.unusedVariables false
set_option linter.unusedSimpArgs false

/-- What Page(a, b) holds. -/
def pg (a b : Int) : List UInt8 := (List.range 512).map fun i : Nat => byteOf (a * (i : Int) + b)
theorem length_pg (a b : Int) : (pg a b).length = 512 := by simp [pg]
theorem pg_get (a b : Int) (k : Nat) (h : k < 512) : (pg a b)[k]'(by rw [length_pg]; exact h) = byteOf (a * (k : Int) + b) := by simp [pg]
theorem pg_cell (a b : Int) (k : Nat) (h : k < 512) : Value.int .u8 (wrap64 (wrap64 (a * (k : Int)) + b) % 256) = bcell ((pg a b)[k]'(by rw [length_pg]; exact h)) := by
  rw [pg_get a b k h, bcell_byteOf]
  congr 1
  simp only [wrap64]
  omega

set_option maxHeartbeats 400000 in
set_option maxRecDepth 100000 in
theorem page_any (a b : Int) (w : World) :
    Calls Try.prog 12 #[.int .i64 a, .int .i64 b] w fun e w' => e = .returned (.slice (some ⟨w.heap.size, 0, none⟩) 512 512) ∧ w'.heap[w.heap.size]? = some (.cells (secCells (pg a b)).toArray 5 (0, 0)) ∧ Below w.heap.size w w' := by
  obtain ⟨w0, hw0⟩ : ∃ w0, w.alloc (.cells (secCells (zerosN 512)).toArray 5) = w0 := ⟨_, rfl⟩
  have hmk : (Instr.makeSlice 37 (.int .i64 512) (.int .i64 512)).run Try.prog w = .ok (.slice (some ⟨w.heap.size, 0, none⟩) 512 512) w0 := by rw [← hw0]; exact makeN 512 (by omega) w
  have hb0 : Below w.heap.size w w0 := by rw [← hw0]; exact (Below.refl _ _).alloc (Nat.le_refl _) _
  have hg0 : w0.heap[w.heap.size]? = some (.cells (secCells (zerosN 512)).toArray 5 (0, 0)) := by rw [← hw0]; exact heap_alloc_new w _
  clear hw0
  generalize w.heap.size = g at *
  go_enter Try.func12, Try.ntmps12
  go_wp2
  go_loopw [6] (fun i wr => ∃ k : Nat, k ≤ 512 ∧ i = .int .i64 k ∧ wr.heap[g]? = some (.cells (secCells ((pg a b).take k ++ (zerosN 512).drop k)).toArray 5 (0, 0)) ∧ Below g w wr) (fun i _ => 512 - (intOf i).toNat)
  case atStart => exact ⟨0, by omega, rfl, by simpa using hg0, hb0⟩
  case round =>
    clear hg0 hb0 hmk
    obtain ⟨k, hk, rfl, hg, ho⟩ := hrel
    have hlen : ((pg a b).take k ++ (zerosN 512).drop k).length = 512 := by rw [List.length_append, List.length_take, List.length_drop, length_pg, length_zerosN]; omega
    by_cases hlt : k < 512
    · have hcell : wr.cell? ⟨g, k, none⟩ = some (.int .u8 (((pg a b).take k ++ (zerosN 512).drop k)[k]'(by omega)).toNat) := by rw [cell_of_row _ _ _ _ _ _ hg]; exact secCells_get _ k (by omega)
      have hfz := frozen_of_row wr g k _ _ hg
      go_wp2
      go_roundw
      case rel =>
        refine ⟨k + 1, by omega, by go_num, ?_, ho.setCell (Nat.le_refl _) _⟩
        have hp := pg_cell a b k hlt
        rw [hp, sec_setCell hg, set_mid _ _ _ (by rw [length_pg]; exact hlt) (by rw [length_zerosN]; omega)]
      case measure => simp [intOf]; omega
    · have hk8 : k = 512 := by omega
      subst hk8
      go_wp2
      go_ret
      refine ⟨rfl, ?_, ho⟩
      rw [hg, List.take_of_length_le (by rw [length_pg]; omega), List.drop_of_length_le (by rw [length_zerosN]; omega), List.append_nil]

/-! ### Bytes as a string -/
def strOf (bs : List UInt8) : ByteArray := ⟨bs.toArray⟩
theorem foldl_push : ∀ (bs : List UInt8) (s : ByteArray), (bs.map fun b => (b.toNat : Int)).foldl (fun r n => r.push (UInt8.ofNat n.toNat)) s = ⟨s.data ++ bs.toArray⟩
  | [], s => by simp
  | b :: r, s => by
    rw [List.map_cons, List.foldl_cons, foldl_push r]
    simp [ByteArray.push]
theorem run_str (w : World) (g n c : Nat) (bs : List UInt8) (hl : bs.length = n) (h : w.heap[g]? = some (.cells (secCells bs).toArray 5 (0, 0))) :
    (convert 37 9 (.slice (some ⟨g, 0, none⟩) n c)).run Try.prog w = .ok (.string (strOf bs)) w := by
  rw [run_convert_bytes_string w 37 9 5 _ _ _ Try.underlying37 Try.underlying5 Try.underlying9]
  have hload : (loadCells ⟨g, 0, none⟩ n).run Try.prog w = .ok ((bs.map fun b => (b.toNat : Int)).map (Value.int .u8)).toArray w := by
    have := run_loadCells_list (P := Try.prog) w ⟨g, 0, none⟩ (secCells bs) (src_of_block h)
    rw [length_secCells, hl] at this
    rw [this]
    simp [secCells, bcell]
  rw [run_bytesToString w _ _ _ _ hload, foldl_push]
  simp [strOf]
theorem run_strnil (w : World) : (convert 37 9 (.slice none 0 0)).run Try.prog w = .ok (.string (strOf [])) w := by kernel_rfl
theorem toList_strOf (bs : List UInt8) : (strOf bs).toList = bs := by
  rw [ByteArray.toList_eq]
  simp [strOf]
theorem beq_str (a b : List UInt8) : ((strOf a).toList == (strOf b).toList) = decide (a = b) := by
  rw [toList_strOf, toList_strOf, Bool.eq_iff_iff]
  simp
theorem strOf_inj {a b : List UInt8} (h : strOf a = strOf b) : a = b := by
  have := congrArg (fun s => s.data.toList) h
  simpa [strOf] using this

/-! ### A device that is well -/
theorem wf_laid {D : Dv} (h : D.wf) (W : List (Nat × List UInt8)) (hW : ∀ x ∈ W, x.1 < D.L.length ∧ x.2.length = 128) : ∀ s ∈ laidOver D.L W, s.length = 128 := by
  have key : ∀ (W : List (Nat × List UInt8)) (L : List (List UInt8)), (∀ x ∈ W, x.2.length = 128) → (∀ s ∈ L, s.length = 128) → ∀ s ∈ laidOver L W, s.length = 128 := by
    intro W
    induction W with
    | nil => intro L _ h; exact h
    | cons x r ih =>
      intro L hx hL
      show ∀ s ∈ laidOver (L.set x.1 x.2) r, s.length = 128
      refine ih _ (fun y hy => hx y (by simp [hy])) (fun s hs => ?_)
      rcases List.mem_or_eq_of_mem_set hs with h1 | h1
      · exact hL s h1
      · rw [h1]; exact hx x (by simp)
  exact key W D.L (fun x hx => (hW x hx).2) h.sec
theorem wf_burnt {D : Dv} (h : D.wf) : -9223372036854775808 ≤ D.burnt.fuse ∧ D.burnt.fuse ≤ 9223372036854775807 := by
  have h1 := h.lo
  have h2 := h.hi
  unfold Dv.burnt
  simp only
  split <;> omega
theorem wf_wrote {D : Dv} (h : D.wf) (i : Nat) (bs : List UInt8) (hi : i < D.L.length) (hb : bs.length = 128) : (D.wrote i bs).wf := by
  refine ⟨h.pos, h.max, h.sec, fun x hx => ?_, (wf_burnt h).1, (wf_burnt h).2⟩
  rcases List.mem_append.1 hx with h1 | h1
  · exact h.ent x h1
  · simp at h1
    rw [h1]
    exact ⟨hi, hb⟩
theorem wf_synced {D : Dv} (h : D.wf) : D.synced.wf := by
  have hl : D.synced.L.length = D.L.length := length_laidOver _ _
  refine ⟨by rw [hl]; exact h.pos, by rw [hl]; exact h.max, wf_laid h D.W h.ent, fun x hx => absurd hx List.not_mem_nil, (wf_burnt h).1, (wf_burnt h).2⟩
theorem wf_more {D : Dv} (h : D.wf) (k : Nat) : (D.more k).wf :=
  ⟨by rw [more_L]; exact h.pos, by rw [more_L]; exact h.max, by rw [more_L]; exact h.sec, by rw [more_L, more_W]; exact h.ent, by rw [more_fuse]; exact h.lo, by rw [more_fuse]; exact h.hi⟩
/-- Well: not dead, without a fuse. -/
structure Dv.well (D : Dv) : Prop where
  wf : D.wf
  live : D.dead = false
  fuse : D.fuse < 0
theorem well_wrote {D : Dv} (h : D.well) (i : Nat) (bs : List UInt8) (hi : i < D.L.length) (hb : bs.length = 128) : (D.wrote i bs).well :=
  ⟨wf_wrote h.wf i bs hi hb, h.live, by
    show (if 0 < D.fuse then D.fuse - 1 else D.fuse) < 0
    have := h.fuse
    rw [if_neg (by omega)]; exact this⟩
theorem well_synced {D : Dv} (h : D.well) : D.synced.well :=
  ⟨wf_synced h.wf, h.live, by
    show (if 0 < D.fuse then D.fuse - 1 else D.fuse) < 0
    have := h.fuse
    rw [if_neg (by omega)]; exact this⟩
theorem well_more {D : Dv} (h : D.well) (k : Nat) : (D.more k).well := ⟨wf_more h.wf k, by rw [more_dead]; exact h.live, by rw [more_fuse]; exact h.fuse⟩
theorem fresh_well (n : Nat) (h1 : 1 ≤ n) (h2 : n ≤ 8192) : (Dv.fresh n).well :=
  ⟨⟨by simpa [Dv.fresh] using h1, by simpa [Dv.fresh] using h2, fun s hs => by
    obtain ⟨_, rfl⟩ := List.mem_replicate.1 hs
    exact length_zeros, fun x hx => by simp [Dv.fresh] at hx, by simp [Dv.fresh], by simp [Dv.fresh]⟩, rfl, by simp [Dv.fresh]⟩
theorem fresh_newest (n i : Nat) (hi : i < n) : (Dv.fresh n).newest i = zeros := by
  simp [Dv.newest, Dv.fresh, hi]
theorem live_write (D : Dv) (i : Nat) (bs : List UInt8) (hd : D.dead = false) (hi : i < D.L.length) (hb : bs.length = 128) :
    D.write (i : Int) bs = if D.fuse = 0 then (50, { D with dead := true }) else (0, D.wrote i bs) := by
  unfold Dv.write
  rw [if_neg (by simp [hd]), if_neg (by omega)]
  simp
theorem live_sync (D : Dv) (hd : D.dead = false) : D.sync = if D.fuse = 0 then (50, { D with dead := true }) else (0, D.synced) := by
  unfold Dv.sync
  rw [if_neg (by simp [hd])]
theorem length_secs : ∀ (n : Nat) (b : List UInt8), b.length = 128 * n → ∀ s ∈ secsOf n b, s.length = 128
  | 0, b, _, s, hs => by simp [secsOf] at hs
  | n + 1, b, hb, s, hs => by
    rw [secsOf] at hs
    rcases List.mem_cons.1 hs with h1 | h1
    · rw [h1, List.length_take]; omega
    · exact length_secs n (b.drop 128) (by rw [List.length_drop]; omega) s h1
/-- How many calls, k more. -/
def cnt (c : Int) : Nat → Int
  | 0 => c
  | k + 1 => wrap64 (cnt c k + 1)
theorem more_calls (D : Dv) : ∀ k, (D.more k).calls = cnt D.calls k
  | 0 => rfl
  | k + 1 => by show wrap64 ((D.more k).calls + 1) = wrap64 (cnt D.calls k + 1); rw [more_calls D k]
theorem cnt_cnt (c : Int) (a : Nat) : ∀ b, cnt (cnt c a) b = cnt c (a + b)
  | 0 => rfl
  | b + 1 => by show wrap64 (cnt (cnt c a) b + 1) = wrap64 (cnt c (a + b) + 1); rw [cnt_cnt c a b]

/-! ### Sectors one behind the other -/
def setN : List (List UInt8) → Nat → List (List UInt8) → List (List UInt8)
  | L, _, [] => L
  | L, i, s :: r => setN (L.set i s) (i + 1) r
theorem length_setN : ∀ (ss L : List (List UInt8)) (i : Nat), (setN L i ss).length = L.length
  | [], L, i => rfl
  | s :: r, L, i => by rw [setN, length_setN r, List.length_set]
theorem setN_out : ∀ (ss L : List (List UInt8)) (i j : Nat), (j < i ∨ i + ss.length ≤ j) → (setN L i ss)[j]? = L[j]?
  | [], L, i, j, _ => rfl
  | s :: r, L, i, j, h => by
    rw [List.length_cons] at h
    rw [setN, setN_out r _ _ _ (by omega), List.getElem?_set_ne (by omega)]
theorem setN_in : ∀ (ss L : List (List UInt8)) (i k : Nat), k < ss.length → i + ss.length ≤ L.length → (setN L i ss)[i + k]? = ss[k]?
  | [], L, i, k, h, _ => by simp at h
  | s :: r, L, i, 0, _, hL => by
    rw [List.length_cons] at hL
    rw [setN, setN_out r _ _ _ (by omega)]
    simp [show i < L.length by omega]
  | s :: r, L, i, k + 1, h, hL => by
    rw [List.length_cons] at h hL
    rw [setN, show i + (k + 1) = (i + 1) + k by omega, setN_in r _ _ _ (by omega) (by rw [List.length_set]; omega)]
    rfl

theorem lay_well : ∀ (ss : List (List UInt8)) (D : Dv) (i : Nat), D.well → i + ss.length ≤ D.L.length → (∀ s ∈ ss, s.length = 128) →
    ∃ E, D.lay i ss = (0, E) ∧ E.well ∧ E.W = [] ∧ E.L = setN (laidOver D.L D.W) i ss ∧ E.calls = cnt D.calls (ss.length + 1)
  | [], D, i, h, _, _ => by
    refine ⟨D.synced, ?_, well_synced h, rfl, rfl, rfl⟩
    rw [Dv.lay, live_sync D h.live, if_neg (by have := h.fuse; omega)]
  | s :: r, D, i, h, hi, hs => by
    rw [List.length_cons] at hi
    have hw := live_write D i s h.live (by omega) (hs s (by simp))
    rw [if_neg (by have := h.fuse; omega)] at hw
    obtain ⟨E, h1, h2, h3, h4, h5⟩ := lay_well r (D.wrote i s) (i + 1) (well_wrote h i s (by omega) (hs s (by simp))) (by show i + 1 + r.length ≤ D.L.length; omega) (fun x hx => hs x (by simp [hx]))
    refine ⟨E, ?_, h2, h3, ?_, ?_⟩
    · rw [Dv.lay, hw, if_neg (by simp)]
      exact h1
    · rw [h4, setN]
      show setN (laidOver D.L (D.W ++ [(i, s)])) (i + 1) r = _
      rw [laidOver_snoc]
    · rw [h5]
      show cnt (wrap64 (D.calls + 1)) (r.length + 1) = _
      have := cnt_cnt D.calls 1 (r.length + 1)
      rw [List.length_cons, show r.length + 1 + 1 = 1 + (r.length + 1) by omega, ← this]
      rfl

/-! ### Pages -/
def pageL (L : List (List UInt8)) (i : Nat) : List UInt8 := L.getD i [] ++ (L.getD (i + 1) [] ++ (L.getD (i + 2) [] ++ L.getD (i + 3) []))
theorem newest_L {D : Dv} (h : D.W = []) (i : Nat) : D.newest i = D.L.getD i [] := by simp [Dv.newest, h]
theorem four_L {D : Dv} (h : D.W = []) (i : Nat) : D.four i = pageL D.L i := by
  unfold Dv.four pageL
  simp only [newest_L h]
theorem setN_getD_out (ss L : List (List UInt8)) (i j : Nat) (h : j < i ∨ i + ss.length ≤ j) : (setN L i ss).getD j [] = L.getD j [] := by
  simp only [List.getD_eq_getElem?_getD, setN_out ss L i j h]
theorem pageL_out (ss L : List (List UInt8)) (i j : Nat) (h : j + 4 ≤ i ∨ i + ss.length ≤ j) : pageL (setN L i ss) j = pageL L j := by
  unfold pageL
  rw [setN_getD_out _ _ _ _ (by omega), setN_getD_out _ _ _ _ (by omega), setN_getD_out _ _ _ _ (by omega), setN_getD_out _ _ _ _ (by omega)]
theorem pageL_in (b : List UInt8) (L : List (List UInt8)) (i : Nat) (hb : b.length = 512) (h : i + 4 ≤ L.length) : pageL (setN L i (secsOf 4 b)) i = b := by
  have hs := length_secsOf 4 b
  have key : ∀ k, k < 4 → (setN L i (secsOf 4 b)).getD (i + k) [] = (secsOf 4 b).getD k [] := fun k hk => by
    simp only [List.getD_eq_getElem?_getD]
    rw [setN_in _ _ _ _ (by omega) (by omega)]
  have k0 := key 0 (by omega)
  rw [Nat.add_zero] at k0
  unfold pageL
  rw [k0, key 1 (by omega), key 2 (by omega), key 3 (by omega)]
  have e0 : (secsOf 4 b).getD 0 [] = b.take 128 := rfl
  have e1 : (secsOf 4 b).getD 1 [] = (b.drop 128).take 128 := rfl
  have e2 : (secsOf 4 b).getD 2 [] = ((b.drop 128).drop 128).take 128 := rfl
  have e3 : (secsOf 4 b).getD 3 [] = (((b.drop 128).drop 128).drop 128).take 128 := rfl
  rw [e0, e1, e2, e3, List.take_of_length_le (l := ((b.drop 128).drop 128).drop 128) (by simp [hb]), List.take_append_drop, List.take_append_drop, List.take_append_drop]

/-- What a write leaves, all going well. -/
def wroteL (L : List (List UInt8)) (fr i : Nat) (b : List UInt8) : List (List UInt8) := setN (setN (setN (setN L (fr + 1) (secsOf 4 b)) fr [headOf (i + 1)]) (fr + 5 + 4 * i) (secsOf 4 b)) fr [headOf 0]
theorem length_wroteL (L : List (List UInt8)) (fr i : Nat) (b : List UInt8) : (wroteL L fr i b).length = L.length := by
  unfold wroteL
  simp only [length_setN]
theorem page_wroteL (L : List (List UInt8)) (fr i j n : Nat) (b : List UInt8) (hb : b.length = 512) (hn : fr + 5 + 4 * n ≤ L.length) (hi : i < n) (hj : j < n) :
    pageL (wroteL L fr i b) (fr + 5 + 4 * j) = if j = i then b else pageL L (fr + 5 + 4 * j) := by
  have hs := length_secsOf 4 b
  unfold wroteL
  rw [pageL_out _ _ _ _ (by right; simp; omega)]
  by_cases e : j = i
  · rw [if_pos e, e, pageL_in b _ _ hb (by simp only [length_setN]; omega)]
  · rw [if_neg e, pageL_out _ _ _ _ (by rw [hs]; omega), pageL_out _ _ _ _ (by right; simp; omega), pageL_out _ _ _ _ (by right; rw [hs]; omega)]
theorem head_wroteL (L : List (List UInt8)) (fr i : Nat) (b : List UInt8) (hn : fr < L.length) : (wroteL L fr i b).getD fr [] = headOf 0 := by
  unfold wroteL
  simp only [List.getD_eq_getElem?_getD]
  have := setN_in [headOf 0] (setN (setN (setN L (fr + 1) (secsOf 4 b)) fr [headOf (i + 1)]) (fr + 5 + 4 * i) (secsOf 4 b)) fr 0 (by simp) (by simp only [length_setN, List.length_singleton]; omega)
  rw [show fr + 0 = fr from rfl] at this
  rw [this]
  rfl
theorem carJ_well {D : Dv} (h : D.well) (hW : D.W = []) (fr i n : Nat) (b : List UInt8) (hb : b.length = 512) (hn : fr + 5 + 4 * n ≤ D.L.length) (hi : i < n) :
    ∃ E, D.carJ fr i b = (0, E) ∧ E.well ∧ E.W = [] ∧ E.L = wroteL D.L fr i b ∧ E.calls = cnt D.calls 14 := by
  have hs := length_secsOf 4 b
  have hl := length_secs 4 b (by omega)
  obtain ⟨E1, a1, a2, a3, a4, a5⟩ := lay_well (secsOf 4 b) D (fr + 1) h (by omega) hl
  rw [hW] at a4
  have a4 : E1.L = setN D.L (fr + 1) (secsOf 4 b) := a4
  have l1 : E1.L.length = D.L.length := by rw [a4, length_setN]
  obtain ⟨E2, b1, b2, b3, b4, b5⟩ := lay_well [headOf (i + 1)] E1 fr a2 (by simp; omega) (fun s hs => by simp at hs; rw [hs, length_headOf])
  rw [a3] at b4
  have b4 : E2.L = setN E1.L fr [headOf (i + 1)] := b4
  have l2 : E2.L.length = D.L.length := by rw [b4, length_setN, l1]
  obtain ⟨E3, c1, c2, c3, c4, c5⟩ := lay_well (secsOf 4 b) E2 (fr + 5 + 4 * i) b2 (by omega) hl
  rw [b3] at c4
  have c4 : E3.L = setN E2.L (fr + 5 + 4 * i) (secsOf 4 b) := c4
  have l3 : E3.L.length = D.L.length := by rw [c4, length_setN, l2]
  obtain ⟨E4, d1, d2, d3, d4, d5⟩ := lay_well [headOf 0] E3 fr c2 (by simp; omega) (fun s hs => by simp at hs; rw [hs, length_headOf])
  rw [c3] at d4
  have d4 : E4.L = setN E3.L fr [headOf 0] := d4
  refine ⟨E4, ?_, d2, d3, ?_, ?_⟩
  · unfold Dv.carJ
    rw [a1, onOk_ok rfl]
    unfold Dv.carH
    rw [b1, onOk_ok rfl]
    unfold Dv.carP
    rw [c1, onOk_ok rfl, d1]
  · rw [d4, c4, b4, a4]
    rfl
  · rw [d5, c5, b5, a5, hs]
    simp only [List.length_singleton, cnt_cnt]
theorem beval_head0 : beval ((headOf 0).take 8) = 0 := by decide
theorem zeros_head : zeros = headOf 0 := by decide
/-- An Open that has nothing to mend. -/
theorem mend_idle {D : Dv} (hd : D.dead = false) (hW : D.W = []) (fr n : Nat) (hh : D.L.getD fr [] = headOf 0) : D.mend fr n = (0, D.more 1) := by
  have e : D.named fr = 0 := by
    unfold Dv.named
    rw [newest_L hW, hh, beval_head0]
  unfold Dv.mend
  rw [if_neg (by simp [hd]), e, if_pos (by left; omega)]
theorem fresh_head (n i : Nat) (hi : i < n) : (Dv.fresh n).L.getD i [] = headOf 0 := by
  rw [← newest_L rfl, fresh_newest n i hi, zeros_head]
theorem fresh_page (n i : Nat) (hi : i + 4 ≤ n) : pageL (Dv.fresh n).L i = zerosN 512 := by
  have e : ∀ j, j < n → (Dv.fresh n).L.getD j [] = zeros := fun j hj => by rw [← newest_L rfl, fresh_newest n j hj]
  unfold pageL
  rw [e _ (by omega), e _ (by omega), e _ (by omega), e _ (by omega)]
  simp [zeros, zerosN]
end Go.Proofs.Ytifoafiidplpiaa
