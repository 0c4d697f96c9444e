/- A part of it: FPage FBoth FSteps RNum. -/
import Derived.Test.YteeembildppgmaaGreatM4
import Derived.Laws.BytesString
import Derived.Deep.QuietTactic
import Derived.BigQuiet
import Derived.WalkMore
import Derived.ScopeJumps
namespace Go.Proofs.YteeembildppgmaaGreat
open Go.RowKit
set_option linter.unusedVariables false
set_option linter.unusedSimpArgs false
def pg (a b : Int) : List UInt8 := (List.range 512).map fun i : Nat => byteOf (a * (i : Int) + b)
def strOf (bs : List UInt8) : ByteArray := ⟨bs.toArray⟩
theorem foldl_push : ∀ (bs : List UInt8) (s : ByteArray), (bs.map fun b => (b.toNat : Int)).foldl (fun r n => r.push (UInt8.ofNat n.toNat)) s = ⟨s.data ++ bs.toArray⟩
 | [], s => by simp
 | b :: r, s => by
   rw [List.map_cons, List.foldl_cons, foldl_push r]
   simp [ByteArray.push]
theorem toList_strOf (bs : List UInt8) : (strOf bs).toList = bs := by
 rw [ByteArray.toList_eq]
 simp [strOf]
theorem beq_str (a b : List UInt8) : ((strOf a).toList == (strOf b).toList) = decide (a = b) := by
 rw [toList_strOf, toList_strOf, Bool.eq_iff_iff]
 simp
theorem wf_laid {D : Dv} (h : D.wf) (W : List (Nat × List UInt8)) (hW : ∀ x ∈ W, x.1 < D.L.length ∧ x.2.length = 128) : ∀ s ∈ laidOver D.L W, s.length = 128 := by
 have key : ∀ (W : List (Nat × List UInt8)) (L : List (List UInt8)), (∀ x ∈ W, x.2.length = 128) → (∀ s ∈ L, s.length = 128) → ∀ s ∈ laidOver L W, s.length = 128 := by
  intro W
  induction W with
  | nil => intro L _ h; exact h
  | cons x r ih =>
    intro L hx hL
    show ∀ s ∈ laidOver (L.set x.1 x.2) r, s.length = 128
    refine ih _ (fun y hy => hx y (by simp [hy])) (fun s hs => ?_)
    rcases List.mem_or_eq_of_mem_set hs with h1 | h1
    · exact hL s h1
    · rw [h1]; exact hx x (by simp)
 exact key W D.L (fun x hx => (hW x hx).2) h.sec
theorem wf_burnt {D : Dv} (h : D.wf) : -9223372036854775808 ≤ D.burnt.fuse ∧ D.burnt.fuse ≤ 9223372036854775807 := by
 have h1 := h.lo
 have h2 := h.hi
 unfold Dv.burnt
 simp only
 split <;> omega
theorem wf_wrote {D : Dv} (h : D.wf) (i : Nat) (bs : List UInt8) (hi : i < D.L.length) (hb : bs.length = 128) : (D.wrote i bs).wf := by
 refine ⟨h.pos, h.max, h.sec, fun x hx => ?_, (wf_burnt h).1, (wf_burnt h).2⟩
 rcases List.mem_append.1 hx with h1 | h1
 · exact h.ent x h1
 · simp at h1
   rw [h1]
   exact ⟨hi, hb⟩
theorem wf_synced {D : Dv} (h : D.wf) : D.synced.wf := by
 have hl : D.synced.L.length = D.L.length := length_laidOver _ _
 refine ⟨by rw [hl]; exact h.pos, by rw [hl]; exact h.max, wf_laid h D.W h.ent, fun x hx => absurd hx List.not_mem_nil, (wf_burnt h).1, (wf_burnt h).2⟩
theorem wf_more {D : Dv} (h : D.wf) (k : Nat) : (D.more k).wf :=
 ⟨by rw [more_L]; exact h.pos, by rw [more_L]; exact h.max, by rw [more_L]; exact h.sec, by rw [more_L, more_W]; exact h.ent, by rw [more_fuse]; exact h.lo, by rw [more_fuse]; exact h.hi⟩
structure Dv.well (D : Dv) : Prop where
 wf : D.wf
 live : D.dead = false
 fuse : D.fuse < 0
theorem well_wrote {D : Dv} (h : D.well) (i : Nat) (bs : List UInt8) (hi : i < D.L.length) (hb : bs.length = 128) : (D.wrote i bs).well :=
 ⟨wf_wrote h.wf i bs hi hb, h.live, by
  show (if 0 < D.fuse then D.fuse - 1 else D.fuse) < 0
  have := h.fuse
  rw [if_neg (by omega)]; exact this⟩
theorem well_synced {D : Dv} (h : D.well) : D.synced.well :=
 ⟨wf_synced h.wf, h.live, by
  show (if 0 < D.fuse then D.fuse - 1 else D.fuse) < 0
  have := h.fuse
  rw [if_neg (by omega)]; exact this⟩
theorem well_more {D : Dv} (h : D.well) (k : Nat) : (D.more k).well := ⟨wf_more h.wf k, by rw [more_dead]; exact h.live, by rw [more_fuse]; exact h.fuse⟩
theorem fresh_well (n : Nat) (h1 : 1 ≤ n) (h2 : n ≤ 8192) : (Dv.fresh n).well :=
 ⟨⟨by simpa [Dv.fresh] using h1, by simpa [Dv.fresh] using h2, fun s hs => by
   obtain ⟨_, rfl⟩ := List.mem_replicate.1 hs
   exact length_zeros, fun x hx => by simp [Dv.fresh] at hx, by simp [Dv.fresh], by simp [Dv.fresh]⟩, rfl, by simp [Dv.fresh]⟩
theorem fresh_newest (n i : Nat) (hi : i < n) : (Dv.fresh n).newest i = zeros := by
 simp [Dv.newest, Dv.fresh, hi]
theorem live_write (D : Dv) (i : Nat) (bs : List UInt8) (hd : D.dead = false) (hi : i < D.L.length) (hb : bs.length = 128) :
 D.write (i : Int) bs = if D.fuse = 0 then (50, { D with dead := true }) else (0, D.wrote i bs) := by
 unfold Dv.write
 rw [if_neg (by simp [hd]), if_neg (by omega)]
 simp
theorem live_sync (D : Dv) (hd : D.dead = false) : D.sync = if D.fuse = 0 then (50, { D with dead := true }) else (0, D.synced) := by
 unfold Dv.sync
 rw [if_neg (by simp [hd])]
theorem length_secs : ∀ (n : Nat) (b : List UInt8), b.length = 128 * n → ∀ s ∈ secsOf n b, s.length = 128
 | 0, b, _, s, hs => by simp [secsOf] at hs
 | n + 1, b, hb, s, hs => by
   rw [secsOf] at hs
   rcases List.mem_cons.1 hs with h1 | h1
   · rw [h1, List.length_take]; omega
   · exact length_secs n (b.drop 128) (by rw [List.length_drop]; omega) s h1
def cnt (c : Int) : Nat → Int
 | 0 => c
 | k + 1 => wrap64 (cnt c k + 1)
theorem cnt_cnt (c : Int) (a : Nat) : ∀ b, cnt (cnt c a) b = cnt c (a + b)
 | 0 => rfl
 | b + 1 => by show wrap64 (cnt (cnt c a) b + 1) = wrap64 (cnt c (a + b) + 1); rw [cnt_cnt c a b]

def setN : List (List UInt8) → Nat → List (List UInt8) → List (List UInt8)
 | L, _, [] => L
 | L, i, s :: r => setN (L.set i s) (i + 1) r
theorem length_setN : ∀ (ss L : List (List UInt8)) (i : Nat), (setN L i ss).length = L.length
 | [], L, i => rfl
 | s :: r, L, i => by rw [setN, length_setN r, List.length_set]
theorem setN_out : ∀ (ss L : List (List UInt8)) (i j : Nat), (j < i ∨ i + ss.length ≤ j) → (setN L i ss)[j]? = L[j]?
 | [], L, i, j, _ => rfl
 | s :: r, L, i, j, h => by
   rw [List.length_cons] at h
   rw [setN, setN_out r _ _ _ (by omega), List.getElem?_set_ne (by omega)]
theorem setN_in : ∀ (ss L : List (List UInt8)) (i k : Nat), k < ss.length → i + ss.length ≤ L.length → (setN L i ss)[i + k]? = ss[k]?
 | [], L, i, k, h, _ => by simp at h
 | s :: r, L, i, 0, _, hL => by
   rw [List.length_cons] at hL
   rw [setN, setN_out r _ _ _ (by omega)]
   simp [show i < L.length by omega]
 | s :: r, L, i, k + 1, h, hL => by
   rw [List.length_cons] at h hL
   rw [setN, show i + (k + 1) = (i + 1) + k by omega, setN_in r _ _ _ (by omega) (by rw [List.length_set]; omega)]
   rfl

theorem lay_well : ∀ (ss : List (List UInt8)) (D : Dv) (i : Nat), D.well → i + ss.length ≤ D.L.length → (∀ s ∈ ss, s.length = 128) →
 ∃ E, D.lay i ss = (0, E) ∧ E.well ∧ E.W = [] ∧ E.L = setN (laidOver D.L D.W) i ss ∧ E.calls = cnt D.calls (ss.length + 1)
 | [], D, i, h, _, _ => by
   refine ⟨D.synced, ?_, well_synced h, rfl, rfl, rfl⟩
   rw [Dv.lay, live_sync D h.live, if_neg (by have := h.fuse; omega)]
 | s :: r, D, i, h, hi, hs => by
   rw [List.length_cons] at hi
   have hw := live_write D i s h.live (by omega) (hs s (by simp))
   rw [if_neg (by have := h.fuse; omega)] at hw
   obtain ⟨E, h1, h2, h3, h4, h5⟩ := lay_well r (D.wrote i s) (i + 1) (well_wrote h i s (by omega) (hs s (by simp))) (by show i + 1 + r.length ≤ D.L.length; omega) (fun x hx => hs x (by simp [hx]))
   refine ⟨E, ?_, h2, h3, ?_, ?_⟩
   · rw [Dv.lay, hw, if_neg (by simp)]
     exact h1
   · rw [h4, setN]
     show setN (laidOver D.L (D.W ++ [(i, s)])) (i + 1) r = _
     rw [laidOver_snoc]
   · rw [h5]
     show cnt (wrap64 (D.calls + 1)) (r.length + 1) = _
     have := cnt_cnt D.calls 1 (r.length + 1)
     rw [List.length_cons, show r.length + 1 + 1 = 1 + (r.length + 1) by omega, ← this]
     rfl

def pageL (L : List (List UInt8)) (i : Nat) : List UInt8 := L.getD i [] ++ (L.getD (i + 1) [] ++ (L.getD (i + 2) [] ++ L.getD (i + 3) []))
theorem newest_L {D : Dv} (h : D.W = []) (i : Nat) : D.newest i = D.L.getD i [] := by simp [Dv.newest, h]
theorem four_L {D : Dv} (h : D.W = []) (i : Nat) : D.four i = pageL D.L i := by
 unfold Dv.four pageL
 simp only [newest_L h]
theorem setN_getD_out (ss L : List (List UInt8)) (i j : Nat) (h : j < i ∨ i + ss.length ≤ j) : (setN L i ss).getD j [] = L.getD j [] := by
 simp only [List.getD_eq_getElem?_getD, setN_out ss L i j h]
theorem pageL_out (ss L : List (List UInt8)) (i j : Nat) (h : j + 4 ≤ i ∨ i + ss.length ≤ j) : pageL (setN L i ss) j = pageL L j := by
 unfold pageL
 rw [setN_getD_out _ _ _ _ (by omega), setN_getD_out _ _ _ _ (by omega), setN_getD_out _ _ _ _ (by omega), setN_getD_out _ _ _ _ (by omega)]
theorem pageL_in (b : List UInt8) (L : List (List UInt8)) (i : Nat) (hb : b.length = 512) (h : i + 4 ≤ L.length) : pageL (setN L i (secsOf 4 b)) i = b := by
 have hs := length_secsOf 4 b
 have key : ∀ k, k < 4 → (setN L i (secsOf 4 b)).getD (i + k) [] = (secsOf 4 b).getD k [] := fun k hk => by
  simp only [List.getD_eq_getElem?_getD]
  rw [setN_in _ _ _ _ (by omega) (by omega)]
 have k0 := key 0 (by omega)
 rw [Nat.add_zero] at k0
 unfold pageL
 rw [k0, key 1 (by omega), key 2 (by omega), key 3 (by omega)]
 have e0 : (secsOf 4 b).getD 0 [] = b.take 128 := rfl
 have e1 : (secsOf 4 b).getD 1 [] = (b.drop 128).take 128 := rfl
 have e2 : (secsOf 4 b).getD 2 [] = ((b.drop 128).drop 128).take 128 := rfl
 have e3 : (secsOf 4 b).getD 3 [] = (((b.drop 128).drop 128).drop 128).take 128 := rfl
 rw [e0, e1, e2, e3, List.take_of_length_le (l := ((b.drop 128).drop 128).drop 128) (by simp [hb]), List.take_append_drop, List.take_append_drop, List.take_append_drop]

def wroteL (L : List (List UInt8)) (fr i : Nat) (b : List UInt8) : List (List UInt8) := setN (setN (setN (setN L (fr + 1) (secsOf 4 b)) fr [headOf (i + 1)]) (fr + 5 + 4 * i) (secsOf 4 b)) fr [headOf 0]
theorem length_wroteL (L : List (List UInt8)) (fr i : Nat) (b : List UInt8) : (wroteL L fr i b).length = L.length := by
 unfold wroteL
 simp only [length_setN]
theorem page_wroteL (L : List (List UInt8)) (fr i j n : Nat) (b : List UInt8) (hb : b.length = 512) (hn : fr + 5 + 4 * n ≤ L.length) (hi : i < n) (hj : j < n) :
 pageL (wroteL L fr i b) (fr + 5 + 4 * j) = if j = i then b else pageL L (fr + 5 + 4 * j) := by
 have hs := length_secsOf 4 b
 unfold wroteL
 rw [pageL_out _ _ _ _ (by right; simp; omega)]
 by_cases e : j = i
 · rw [if_pos e, e, pageL_in b _ _ hb (by simp only [length_setN]; omega)]
 · rw [if_neg e, pageL_out _ _ _ _ (by rw [hs]; omega), pageL_out _ _ _ _ (by right; simp; omega), pageL_out _ _ _ _ (by right; rw [hs]; omega)]
theorem carJ_well {D : Dv} (h : D.well) (hW : D.W = []) (fr i n : Nat) (b : List UInt8) (hb : b.length = 512) (hn : fr + 5 + 4 * n ≤ D.L.length) (hi : i < n) :
 ∃ E, D.carJ fr i b = (0, E) ∧ E.well ∧ E.W = [] ∧ E.L = wroteL D.L fr i b ∧ E.calls = cnt D.calls 14 := by
 have hs := length_secsOf 4 b
 have hl := length_secs 4 b (by omega)
 obtain ⟨E1, a1, a2, a3, a4, a5⟩ := lay_well (secsOf 4 b) D (fr + 1) h (by omega) hl
 rw [hW] at a4
 have a4 : E1.L = setN D.L (fr + 1) (secsOf 4 b) := a4
 have l1 : E1.L.length = D.L.length := by rw [a4, length_setN]
 obtain ⟨E2, b1, b2, b3, b4, b5⟩ := lay_well [headOf (i + 1)] E1 fr a2 (by simp; omega) (fun s hs => by simp at hs; rw [hs, length_headOf])
 rw [a3] at b4
 have b4 : E2.L = setN E1.L fr [headOf (i + 1)] := b4
 have l2 : E2.L.length = D.L.length := by rw [b4, length_setN, l1]
 obtain ⟨E3, c1, c2, c3, c4, c5⟩ := lay_well (secsOf 4 b) E2 (fr + 5 + 4 * i) b2 (by omega) hl
 rw [b3] at c4
 have c4 : E3.L = setN E2.L (fr + 5 + 4 * i) (secsOf 4 b) := c4
 have l3 : E3.L.length = D.L.length := by rw [c4, length_setN, l2]
 obtain ⟨E4, d1, d2, d3, d4, d5⟩ := lay_well [headOf 0] E3 fr c2 (by simp; omega) (fun s hs => by simp at hs; rw [hs, length_headOf])
 rw [c3] at d4
 have d4 : E4.L = setN E3.L fr [headOf 0] := d4
 refine ⟨E4, ?_, d2, d3, ?_, ?_⟩
 · unfold Dv.carJ
   rw [a1, onOk_ok rfl]
   unfold Dv.carH
   rw [b1, onOk_ok rfl]
   unfold Dv.carP
   rw [c1, onOk_ok rfl, d1]
 · rw [d4, c4, b4, a4]
   rfl
 · rw [d5, c5, b5, a5, hs]
   simp only [List.length_singleton, cnt_cnt]
theorem beval_head0 : beval ((headOf 0).take 8) = 0 := by decide
theorem zeros_head : zeros = headOf 0 := by decide
theorem mend_idle {D : Dv} (hd : D.dead = false) (hW : D.W = []) (fr n : Nat) (hh : D.L.getD fr [] = headOf 0) : D.mend fr n = (0, D.more 1) := by
 have e : D.named fr = 0 := by
  unfold Dv.named
  rw [newest_L hW, hh, beval_head0]
 unfold Dv.mend
 rw [if_neg (by simp [hd]), e, if_pos (by left; omega)]
end Go.Proofs.YteeembildppgmaaGreat
namespace Go.Proofs.YteeembildppgmaaGreat
open Go.RowKit
set_option linter.unusedVariables false
set_option linter.unusedSimpArgs false
structure DevB (w0 w : World) (p : Nat) (xs fp : List Nat) (D : Dv) : Prop where
 dev : DevAt w p fp D
 f0 : ∀ k ∈ fp, w0.heap.size ≤ k
 xs : ∀ k ∈ xs, k < w.heap.size ∧ k ∉ fp
 below : Below w0.heap.size w0 w
def DevX (w0 w : World) (p : Nat) (xs : List Nat) (D : Dv) : Prop := ∃ fp, DevB w0 w p xs fp D
structure FsIs (w0 w : World) (q p fr n : Nat) (failed : Bool) (xs fp : List Nat) (D : Dv) : Prop where
 fl : FileAt w q p fr n failed
 dv : DevB w0 w p xs fp D
 nq : q ∉ fp
 q0 : w0.heap.size ≤ q
 qx : q ∉ xs
def Fs (w0 w : World) (q p fr n : Nat) (failed : Bool) (xs : List Nat) (D : Dv) : Prop := ∃ fp, FsIs w0 w q p fr n failed xs fp D
def Kept (xs : List Nat) (w w' : World) : Prop := w.heap.size ≤ w'.heap.size ∧ ∀ k ∈ xs, w'.heap[k]? = w.heap[k]?
theorem Kept.refl (xs : List Nat) (w : World) : Kept xs w w := ⟨Nat.le_refl _, fun _ _ => rfl⟩
theorem Kept.trans {xs : List Nat} {a b c : World} (h : Kept xs a b) (k : Kept xs b c) : Kept xs a c := ⟨Nat.le_trans h.1 k.1, fun i hi => (k.2 i hi).trans (h.2 i hi)⟩

section
variable {w0 w w' : World} {q p fr n : Nat} {failed failed' : Bool} {xs : List Nat} {D D' : Dv}
theorem DevB.step {fp fp' : List Nat} (x : DevB w0 w p xs fp D) (hO : Off fp w w') (hD : DevAt w' p fp' D') (hF : ∀ k ∈ fp', k ∈ fp ∨ w.heap.size ≤ k) : DevB w0 w' p xs fp' D' ∧ Kept xs w w' := by
 have hsz := x.below.size
 refine ⟨⟨hD, fun k hk => ?_, fun k hk => ⟨Nat.lt_of_lt_of_le (x.xs k hk).1 hO.size, fun hm => ?_⟩, x.below.trans (hO.below hsz x.f0)⟩, hO.size, fun k hk => hO.block k (x.xs k hk).1 (x.xs k hk).2⟩
 · rcases hF k hk with h1 | h1
   · exact x.f0 k h1
   · omega
 · rcases hF k hm with h1 | h1
   · exact (x.xs k hk).2 h1
   · have := (x.xs k hk).1; omega
theorem DevB.belowW {fp : List Nat} (x : DevB w0 w p xs fp D) (hb : Below w.heap.size w w') : DevB w0 w' p xs fp D := (x.step (Off.of_below hb fp) (x.dev.below hb) (fun k hk => .inl hk)).1
theorem DevX.belowW (h : DevX w0 w p xs D) (hb : Below w.heap.size w w') : DevX w0 w' p xs D := let ⟨_, x⟩ := h; ⟨_, x.belowW hb⟩
theorem DevX.below (h : DevX w0 w p xs D) : Below w0.heap.size w0 w := let ⟨_, x⟩ := h; x.below
theorem DevX.wf (h : DevX w0 w p xs D) : D.wf := let ⟨_, x⟩ := h; x.dev.wf
theorem DevX.mind (h : DevX w0 w p xs D) {ys : List Nat} (hy : ∀ k ∈ ys, k ∈ xs ∨ (k < w0.heap.size)) : DevX w0 w p ys D := by
 obtain ⟨fp, x⟩ := h
 refine ⟨fp, x.dev, x.f0, fun k hk => ?_, x.below⟩
 rcases hy k hk with h1 | h1
 · exact x.xs k h1
 · exact ⟨Nat.lt_of_lt_of_le h1 x.below.size, fun hm => by have := x.f0 k hm; omega⟩
theorem DevX.mindNew (h : DevX w0 w p xs D) (hb : Below w.heap.size w w') {ys : List Nat} (hy : ∀ k ∈ ys, k ∈ xs ∨ (w.heap.size ≤ k ∧ k < w'.heap.size)) : DevX w0 w' p ys D := by
 obtain ⟨fp, x⟩ := h
 have y := x.belowW hb
 refine ⟨fp, y.dev, y.f0, fun k hk => ?_, y.below⟩
 rcases hy k hk with h1 | h1
 · exact y.xs k h1
 · exact ⟨h1.2, fun hm => by have := x.dev.lim k hm; omega⟩
theorem FsIs.belowW {fp : List Nat} (x : FsIs w0 w q p fr n failed xs fp D) (hb : Below w.heap.size w w') : FsIs w0 w' q p fr n failed xs fp D := ⟨x.fl.below hb, x.dv.belowW hb, x.nq, x.q0, x.qx⟩
theorem Fs.belowW (h : Fs w0 w q p fr n failed xs D) (hb : Below w.heap.size w w') : Fs w0 w' q p fr n failed xs D := let ⟨_, x⟩ := h; ⟨_, x.belowW hb⟩
theorem Fs.drewN (h : Fs w0 w q p fr n failed xs D) (m : Nat) : Fs w0 (w.drewN m) q p fr n failed xs D := h.belowW (below_drewN _ _ m)
theorem Fs.below (h : Fs w0 w q p fr n failed xs D) : Below w0.heap.size w0 w := let ⟨_, x⟩ := h; x.dv.below
theorem Fs.wf (h : Fs w0 w q p fr n failed xs D) : D.wf := let ⟨_, x⟩ := h; x.dv.dev.wf
theorem Fs.q0 (h : Fs w0 w q p fr n failed xs D) : w0.heap.size ≤ q := let ⟨_, x⟩ := h; x.q0
theorem Fs.mind (h : Fs w0 w q p fr n failed xs D) {ys : List Nat} (hy : ∀ k ∈ ys, k ∈ xs ∨ (k < w0.heap.size)) : Fs w0 w q p fr n failed ys D := by
 obtain ⟨fp, x⟩ := h
 refine ⟨fp, x.fl, ⟨x.dv.dev, x.dv.f0, fun k hk => ?_, x.dv.below⟩, x.nq, x.q0, fun hm => ?_⟩
 · rcases hy k hk with h1 | h1
   · exact x.dv.xs k h1
   · exact ⟨Nat.lt_of_lt_of_le h1 x.dv.below.size, fun hm => by have := x.dv.f0 k hm; omega⟩
 · rcases hy q hm with h1 | h1
   · exact x.qx h1
   · have := x.q0; omega
theorem Fs.mindNew (h : Fs w0 w q p fr n failed xs D) (hb : Below w.heap.size w w') {ys : List Nat} (hy : ∀ k ∈ ys, k ∈ xs ∨ (w.heap.size ≤ k ∧ k < w'.heap.size)) : Fs w0 w' q p fr n failed ys D := by
 obtain ⟨fp, x⟩ := h
 have y := x.belowW hb
 refine ⟨fp, y.fl, ⟨y.dv.dev, y.dv.f0, fun k hk => ?_, y.dv.below⟩, y.nq, y.q0, fun hm => ?_⟩
 · rcases hy k hk with h1 | h1
   · exact y.dv.xs k h1
   · exact ⟨h1.2, fun hm => by have := x.dv.dev.lim k hm; omega⟩
 · rcases hy q hm with h1 | h1
   · exact y.qx h1
   · have := x.fl.lt; omega
theorem Fs.write {g : Nat} (h : Fs w0 w q p fr n failed xs D) (hg : g ∈ xs) (hg0 : w0.heap.size ≤ g) (hO : Off [g] w w') : Fs w0 w' q p fr n failed xs D := by
 obtain ⟨fp, x⟩ := h
 have hgf := (x.dv.xs g hg).2
 refine ⟨fp, x.fl.off hO (fun hm => by simp at hm; exact x.qx (hm ▸ hg)), ⟨x.dv.dev.apart hO (fun k hk hm => by simp at hm; exact hgf (hm ▸ hk)), x.dv.f0, fun k hk => ⟨Nat.lt_of_lt_of_le (x.dv.xs k hk).1 hO.size, (x.dv.xs k hk).2⟩, ?_⟩, x.nq, x.q0, x.qx⟩
 exact x.dv.below.trans (hO.below x.dv.below.size (fun k hk => by simp at hk; rw [hk]; exact hg0))

theorem b_new (n : Nat) (w : World) (h1 : 1 ≤ n) (h2 : n ≤ 8192) :
 Calls Tryz.prog 27 #[.int .i64 (n : Int)] w fun e w' => ∃ p, e = .returned (.tuple #[.pointer (some ⟨p, 0, none⟩), .int .i64 0]) ∧ DevX w w' p [] (Dv.fresh n) := by
 refine (new_dev n w h1 h2).mono ?_
 rintro e w' ⟨rfl, hD, hB⟩
 exact ⟨_, rfl, [w.heap.size, w.heap.size + 1], hD, fun k hk => by simp at hk; omega, fun k hk => by simp at hk, hB⟩
theorem b_open (fr n : Nat) (h : DevX w0 w p xs D) (hn : 1 ≤ n) (hW : D.W.length ≤ 700000) (hfr : fr + 5 + 4 * n ≤ D.L.length) :
 Calls Tryz.prog 73 #[.pointer (some ⟨p, 0, none⟩), .int .i64 (fr : Int), .int .i64 (n : Int)] w fun e w' => ∃ q, e = .returned (.tuple #[.pointer (if (D.mend fr n).1 = 0 then some ⟨q, 0, none⟩ else none), .int .i64 (D.mend fr n).1]) ∧
  Fs w0 w' q p fr n false xs (D.mend fr n).2 ∧ Kept xs w w' := by
 obtain ⟨fp, x⟩ := h
 refine (open_go x.dev hn hW hfr).mono ?_
 rintro e w' ⟨rfl, fp', h1, h2, h3, h4, h5⟩
 obtain ⟨r1, r2⟩ := x.step h3 h2 h4
 exact ⟨_, rfl, ⟨fp', h1, r1, h5, x.below.size, fun hm => by have := (x.xs _ hm).1; omega⟩, r2⟩
theorem b_openOk {E : Dv} (fr n : Nat) (h : DevX w0 w p xs D) (hn : 1 ≤ n) (hW : D.W.length ≤ 700000) (hfr : fr + 5 + 4 * n ≤ D.L.length) (hm : D.mend fr n = (0, E)) :
 Calls Tryz.prog 73 #[.pointer (some ⟨p, 0, none⟩), .int .i64 (fr : Int), .int .i64 (n : Int)] w fun e w' => ∃ q, e = .returned (.tuple #[.pointer (some ⟨q, 0, none⟩), .int .i64 0]) ∧
  Fs w0 w' q p fr n false xs E ∧ Kept xs w w' := by
 have := b_open fr n h hn hW hfr
 rw [hm] at this
 exact this
theorem b_pages (h : Fs w0 w q p fr n failed xs D) : Calls Tryz.prog 123 #[.pointer (some ⟨q, 0, none⟩)] w fun e w' => e = .returned (.int .i64 (n : Int)) ∧ w' = w := let ⟨_, x⟩ := h; pages_any x.fl
theorem b_size (h : DevX w0 w p xs D) : Calls Tryz.prog 47 #[.pointer (some ⟨p, 0, none⟩)] w fun e w' => e = .returned (.int .i64 (D.L.length : Int)) ∧ w' = w := let ⟨_, x⟩ := h; size_dev p w _ D x.dev
theorem b_read (i : Nat) (h : Fs w0 w q p fr n failed xs D) (hd : D.dead = false) (hW : D.W.length ≤ 900000) (hfr : fr + 5 + 4 * n ≤ D.L.length) (hi : i < n) :
 Calls Tryz.prog 94 #[.pointer (some ⟨q, 0, none⟩), .int .i64 (i : Int)] w fun e w' => ∃ g, e = .returned (.tuple #[.slice (some ⟨g, 0, none⟩) 512 512, .int .i64 0]) ∧ w.heap.size ≤ g ∧
  w'.heap[g]? = some (.cells (secCells (D.four (fr + 5 + 4 * i))).toArray 5 (0, 0)) ∧ Fs w0 w' q p fr n failed (g :: xs) (D.more 4) ∧ Kept xs w w' := by
 obtain ⟨fp, x⟩ := h
 refine (fread_ok i x.fl x.dv.dev x.nq hd hW hfr hi).mono ?_
 rintro e w' ⟨rfl, h1, h2, h3⟩
 obtain ⟨r1, r2⟩ := x.dv.step h3 h2 (fun k hk => .inl hk)
 have hlt := (Array.getElem?_eq_some_iff.1 h1).1
 refine ⟨_, rfl, Nat.le_refl _, h1, ⟨fp, x.fl.off h3 x.nq, ⟨r1.dev, r1.f0, fun k hk => ?_, r1.below⟩, x.nq, x.q0, fun hm => ?_⟩, r2⟩
 · rcases List.mem_cons.1 hk with h6 | h6
   · rw [h6]; exact ⟨hlt, fun hm => by have := x.dv.dev.lim _ hm; omega⟩
   · exact r1.xs k h6
 · rcases List.mem_cons.1 hm with h6 | h6
   · have := x.fl.lt; omega
   · exact x.qx h6
end
end Go.Proofs.YteeembildppgmaaGreat
namespace Go.Proofs.YteeembildppgmaaGreat
open Go.RowKit
set_option linter.unusedVariables false
set_option linter.unusedSimpArgs false
theorem step_call2_to {P : Program} {ops : Array Oper} {Q : Exit → Act → World → Prop} {md : Region.Mode} {S : World → Prop} {o : Oper} {fuel : Nat} {listed : Array Bool} {a : Act} {w : World} {R : Ending → World → Prop} (j dst f : Nat) (hj : ops[j]? = some o)
 (hr : Region.ready md ops listed = [j]) (hd : o.dst = some dst) (hw : Region.wanted o (yielded ops a.tmps) = true) (x y : Operand) (ts : Array TypeId) (hop : o.op = Op.call { callee := Callee.value (Operand.func f), args := #[x, y], argTypes := ts })
 (vx vy : Value) (hx : a.eval x = vx) (hy : a.eval y = vy) (hcf : ∀ args w, (callFunc f args).run P w = .ok (.enter f args) w) (hc : Calls P f #[vx, vy] w R)
 (hK : ∀ e w', R e w' → ∃ v, e = .returned v ∧ S w' ∧ wpAnyH P md ops Q S fuel (listed.setIfInBounds j true) (a.put (some dst) v) w') : wpAnyH P md ops Q S (fuel + 1) listed a w := by
 refine step_by j hj hr (fun K hK' => ?_)
 rw [if_pos hw]
 have hrun : (execOp a.eval o).run P w = .ok (.enter f #[vx, vy]) w := by
  have hff : a.eval (.func f) = .func (.func f) #[] #[] := rfl
  unfold execOp
  simp [hop, resolve, hff, Deferred.ofValue, invoke, hx, hy]
  exact hcf _ _
 unfold Oper.wp
 rw [hrun, Oper.upon_enter]
 refine hc.mono ?_
 intro e w' hR
 obtain ⟨v, rfl, hS, hW⟩ := hK e w' hR
 show K (a.put o.dst v) w'
 rw [hd]
 exact hK' _ _ hS hW
theorem step_call3_to {P : Program} {ops : Array Oper} {Q : Exit → Act → World → Prop} {md : Region.Mode} {S : World → Prop} {o : Oper} {fuel : Nat} {listed : Array Bool} {a : Act} {w : World} {R : Ending → World → Prop} (j dst f : Nat) (hj : ops[j]? = some o)
 (hr : Region.ready md ops listed = [j]) (hd : o.dst = some dst) (hw : Region.wanted o (yielded ops a.tmps) = true) (x y z : Operand) (ts : Array TypeId) (hop : o.op = Op.call { callee := Callee.value (Operand.func f), args := #[x, y, z], argTypes := ts })
 (vx vy vz : Value) (hx : a.eval x = vx) (hy : a.eval y = vy) (hz : a.eval z = vz) (hcf : ∀ args w, (callFunc f args).run P w = .ok (.enter f args) w) (hc : Calls P f #[vx, vy, vz] w R)
 (hK : ∀ e w', R e w' → ∃ v, e = .returned v ∧ S w' ∧ wpAnyH P md ops Q S fuel (listed.setIfInBounds j true) (a.put (some dst) v) w') : wpAnyH P md ops Q S (fuel + 1) listed a w := by
 refine step_by j hj hr (fun K hK' => ?_)
 rw [if_pos hw]
 have hrun : (execOp a.eval o).run P w = .ok (.enter f #[vx, vy, vz]) w := by
  have hff : a.eval (.func f) = .func (.func f) #[] #[] := rfl
  unfold execOp
  simp [hop, resolve, hff, Deferred.ofValue, invoke, hx, hy, hz]
  exact hcf _ _
 unfold Oper.wp
 rw [hrun, Oper.upon_enter]
 refine hc.mono ?_
 intro e w' hR
 obtain ⟨v, rfl, hS, hW⟩ := hK e w' hR
 show K (a.put o.dst v) w'
 rw [hd]
 exact hK' _ _ hS hW

theorem op_len (ρ : Operand → Value) (o : Oper) (x : Operand) (t e : TypeId) (hu : Tryz.prog.underlying t = some (.slice e)) (ho : o.op = .call { callee := .builtin .len, args := #[x], argTypes := #[t] }) (a : Option Addr) (n c : Nat) (hx : ρ x = .slice a n c) {w : World} : (execOp ρ o).run Tryz.prog w = .ok (.value (.int .i64 (n : Int))) w := by
 unfold execOp
 simp [ho, hx, go_sem, resolve, invoke, builtin, Builtin.len_, run_underlying hu, goInt]
theorem step_call1_to {P : Program} {ops : Array Oper} {Q : Exit → Act → World → Prop} {md : Region.Mode} {S : World → Prop} {o : Oper} {fuel : Nat} {listed : Array Bool} {a : Act} {w : World} {R : Ending → World → Prop} (j dst f : Nat) (hj : ops[j]? = some o)
 (hr : Region.ready md ops listed = [j]) (hd : o.dst = some dst) (hw : Region.wanted o (yielded ops a.tmps) = true) (x : Operand) (ts : Array TypeId) (hop : o.op = Op.call { callee := Callee.value (Operand.func f), args := #[x], argTypes := ts })
 (vx : Value) (hx : a.eval x = vx) (hcf : ∀ args w, (callFunc f args).run P w = .ok (.enter f args) w) (hc : Calls P f #[vx] w R)
 (hK : ∀ e w', R e w' → ∃ v, e = .returned v ∧ S w' ∧ wpAnyH P md ops Q S fuel (listed.setIfInBounds j true) (a.put (some dst) v) w') : wpAnyH P md ops Q S (fuel + 1) listed a w := by
 refine step_by j hj hr (fun K hK' => ?_)
 rw [if_pos hw]
 have hrun : (execOp a.eval o).run P w = .ok (.enter f #[vx]) w := by
  have hff : a.eval (.func f) = .func (.func f) #[] #[] := rfl
  unfold execOp
  simp [hop, resolve, hff, Deferred.ofValue, invoke, hx]
  exact hcf _ _
 unfold Oper.wp
 rw [hrun, Oper.upon_enter]
 refine hc.mono ?_
 intro e w' hR
 obtain ⟨v, rfl, hS, hW⟩ := hK e w' hR
 show K (a.put o.dst v) w'
 rw [hd]
 exact hK' _ _ hS hW
theorem Tryz.enters116 (args : Array Value) (w : World) : (callFunc 116 args).run Tryz.prog w = .ok (.enter 116 args) w := by kernel_rfl
end Go.Proofs.YteeembildppgmaaGreat
namespace Go.Proofs.YteeembildppgmaaGreat
open Go.RowKit
set_option linter.unusedVariables false
set_option linter.unusedSimpArgs false
set_option maxHeartbeats 400000 in
theorem rnumber_any (g c : Nat) (bs : List UInt8) (t : TypeId) (fr : Nat × Nat) (w : World) (hq : w.heap[g]? = some (.cells (secCells bs).toArray t fr)) (hl : bs.length = 128) (hc : 128 ≤ c) :
 Calls Tryz.prog 153 #[.slice (some ⟨g, 0, none⟩) 128 c] w fun e w' => e = .returned (.int .u64 (beval (bs.take 8) : Nat)) ∧ w' = w := by
 go_enter Tryz.func153, Tryz.ntmps153
 go_wp2
 go_loop [9, 3] (fun i v => ∃ k : Nat, k ≤ 8 ∧ i = .int .i64 k ∧ v = .int .u64 (beval (bs.take k) : Nat)) (fun i _ => 8 - (intOf i).toNat)
 case atStart => exact ⟨0, by omega, rfl, rfl⟩
 case round =>
  obtain ⟨k, hk, rfl, rfl⟩ := hrel
  by_cases hlt : k < 8
  · have hcell : w.cell? ⟨g, k, none⟩ = some (.int .u8 ((bs[k]'(by omega)).toNat : Int)) := by rw [cell_of_row _ _ _ _ _ _ hq]; exact secCells_get bs k (by omega)
    go_wp2
    go_round
    case rel =>
     refine ⟨k + 1, by omega, rfl, ?_⟩
     have hv : beval (bs.take k) < 72057594037927936 := by
      have h1 := beval_lt (bs.take k)
      rw [List.length_take, Nat.min_eq_left (by omega)] at h1
      exact Nat.lt_of_lt_of_le h1 (Nat.le_trans (Nat.pow_le_pow_right (by omega) (by omega : k ≤ 7)) (by decide))
     rw [or_u64 _ _ hv (bs[k]'(by omega)).toNat_lt, List.take_succ_eq_append_getElem (by omega), beval_snoc]
    case measure => simp [intOf]; omega
  · go_wp2
    go_ret
    have hk8 : k = 8 := by omega
    subst hk8
    exact ⟨rfl, rfl⟩
def rheadOf (s c : Nat) : List UInt8 := be8 (s + 1) ++ [UInt8.ofNat (c / 256), UInt8.ofNat (c % 256)]
theorem rlength_headOf (s c : Nat) : (rheadOf s c).length = 10 := by simp [rheadOf, length_be8]

theorem rbe8_cell (s k : Nat) (h : k < 8) : Value.int .u8 (((s : Int) + 1) / 2 ^ (8 * (7 - k)) % 256) = bcell ((be8 (s + 1))[k]'(by rw [length_be8]; exact h)) := by
 rw [be8_get _ _ h, bcell_ofNat _ (Nat.mod_lt _ (by omega))]
 congr 1
 have e : (2 : Int) ^ (8 * (7 - k)) = ((256 ^ (7 - k) : Nat) : Int) := by
  rw [Int.pow_mul]
  simp
 rw [e, show (s : Int) + 1 = ((s + 1 : Nat) : Int) by omega, ← Int.natCast_ediv]
 omega

set_option maxHeartbeats 400000 in
theorem setHead_any (g c s n : Nat) (bs : List UInt8) (w : World) (hq : w.heap[g]? = some (.cells (secCells bs).toArray 5 (0, 0))) (hl : bs.length = 128) (hc : 128 ≤ c) (hs : s < 4611686018427387904) (hn : n ≤ 118) :
 Calls Tryz.prog 152 #[.slice (some ⟨g, 0, none⟩) 128 c, .int .i64 (s : Int), .int .i64 (n : Int)] w fun e w' => e = .returned (.tuple #[]) ∧ w'.heap[g]? = some (.cells (secCells (rheadOf s n ++ bs.drop 10)).toArray 5 (0, 0)) ∧ Off [g] w w' := by
 go_enter Tryz.func152, Tryz.ntmps152
 go_wp2
 go_loopw [11] (fun i wr => ∃ k : Nat, k ≤ 8 ∧ i = .int .i64 k ∧ wr.heap[g]? = some (.cells (secCells ((be8 (s + 1)).take k ++ bs.drop k)).toArray 5 (0, 0)) ∧ Off [g] w wr) (fun i _ => 8 - (intOf i).toNat)
 case atStart => exact ⟨0, by omega, rfl, by simpa using hq, Off.refl _ _⟩
 case round =>
  obtain ⟨k, hk, rfl, hg, ho⟩ := hrel
  have hlen : ((be8 (s + 1)).take k ++ bs.drop k).length = 128 := by simp [length_be8, hl]; omega
  by_cases hlt : k < 8
  · have hcell : wr.cell? ⟨g, k, none⟩ = some (.int .u8 (((be8 (s + 1)).take k ++ bs.drop k)[k]'(by omega)).toNat) := by rw [cell_of_row _ _ _ _ _ _ hg]; exact secCells_get _ k (by omega)
    have hfz := frozen_of_row wr g k _ _ hg
    go_wp2
    go_roundw
    case rel =>
     refine ⟨k + 1, by omega, rfl, ?_, ho.setCell _ _ (.inl (by simp))⟩
     rw [rbe8_cell s k hlt, sec_setCell hg, set_mid _ _ _ (by rw [length_be8]; exact hlt) (by omega)]
    case measure => simp [intOf]; omega
  · have hk8 : k = 8 := by omega
    subst hk8
    have h8 : wr.cell? ⟨g, 8, none⟩ = some (.int .u8 (((be8 (s + 1)).take 8 ++ bs.drop 8)[8]'(by omega)).toNat) := by rw [cell_of_row _ _ _ _ _ _ hg]; exact secCells_get _ 8 (by omega)
    have h9 : wr.cell? ⟨g, 9, none⟩ = some (.int .u8 (((be8 (s + 1)).take 8 ++ bs.drop 8)[9]'(by omega)).toNat) := by rw [cell_of_row _ _ _ _ _ _ hg]; exact secCells_get _ 9 (by omega)
    have f8 := frozen_of_row wr g 8 _ _ hg
    have f9 := frozen_of_row wr g 9 _ _ hg
    go_wp2
    go_end0
    refine ⟨rfl, ?_, (ho.setCell _ _ (.inl (by simp))).setCell _ _ (.inl (by simp))⟩
    have e8 : (Value.int .u8 ((n : Int) / 256)) = bcell (UInt8.ofNat (n / 256)) := by rw [bcell_ofNat _ (by omega)]; rfl
    have e9 : (Value.int .u8 (n : Int)) = bcell (UInt8.ofNat (n % 256)) := by rw [bcell_ofNat _ (by omega), Nat.mod_eq_of_lt (by omega)]
    rw [e8, e9, sec_setCell (sec_setCell hg 8 _) 9]
    congr 4
    rw [List.take_of_length_le (by rw [length_be8]; omega), List.set_append_right _ _ (by rw [length_be8]; omega), List.set_append_right _ _ (by rw [length_be8]; omega), length_be8, rheadOf, List.append_assoc]
    congr 1
    rw [List.drop_eq_getElem_cons (show 8 < bs.length by omega), List.drop_eq_getElem_cons (show 9 < bs.length by omega)]
    rfl
def cntOf (bs : List UInt8) : Nat := (bs.getD 8 0).toNat * 256 + (bs.getD 9 0).toNat
def isThere (bs : List UInt8) (s skip : Nat) : Prop := beval (bs.take 8) = s + 1 ∧ 1 ≤ cntOf bs ∧ cntOf bs ≤ 118 ∧ skip < cntOf bs
def isThereD (bs : List UInt8) (s skip : Nat) : Decidable (isThere bs s skip) := if h : beval (bs.take 8) = s + 1 ∧ 1 ≤ cntOf bs ∧ cntOf bs ≤ 118 ∧ skip < cntOf bs then .isTrue h else .isFalse h
def got (bs : List UInt8) (s skip : Nat) : List UInt8 := @ite _ (isThere bs s skip) (isThereD bs s skip) ((bs.drop (10 + skip)).take (cntOf bs - skip)) []

theorem Exit.jump_ret {l : Nat} {J : Act → World → Prop} {Q : Exit → Act → World → Prop} {a : Act} {w : World} : Exit.jump l J Q .ret a w = Q .ret a w := rfl
theorem wp_scope_forward {P : Program} {Q : Exit → Act → World → Prop} {a : Act} {w : World} {c rest : Code} (l : Nat) (hf : findLabel c l = some rest)
 (first : c.wp P (Exit.jump l (fun a w => rest.wp P (Exit.noGoto Q) a w) Q) a w) : (Code.scope c).wp P Q a w := by
 refine wp_scope_jumps l _ (fun _ _ => 0) hf first (fun a w hJ => ?_)
 intro b k cs
 obtain ⟨e, a', w', hq, harr⟩ := hJ b k cs
 exact ⟨e, a', w', by cases e <;> first | exact hq | exact hq.elim, harr⟩

set_option maxHeartbeats 400000 in
theorem bytesOf_any (g s skip : Nat) (bs : List UInt8) (t : TypeId) (fr : Nat × Nat) (w : World) (hq : w.heap[g]? = some (.cells (secCells bs).toArray t fr)) (hl : bs.length = 128) (hs : s < 4611686018427387904) (hk : skip < 118) :
 Calls Tryz.prog 132 #[.slice (some ⟨g, 0, none⟩) 128 128, .int .i64 (s : Int), .int .i64 (skip : Int)] w fun e w' => e = .returned (@ite Value (isThere bs s skip) (isThereD bs s skip) (.slice (some ⟨g, 10 + skip, none⟩) (cntOf bs - skip) (118 - skip)) (.slice none 0 0)) ∧ ∃ m, w' = w.drewN m := by
 obtain ⟨V, hV⟩ : ∃ V, (@ite Value (isThere bs s skip) (isThereD bs s skip) (Value.slice (some ⟨g, 10 + skip, none⟩) (cntOf bs - skip) (118 - skip)) (.slice none 0 0)) = V := ⟨_, rfl⟩
 rw [hV]
 have HV := hide hV
 clear hV
 have HN := hide (rnumber_any g 128 bs t fr w hq hl (by omega))
 have h8 : w.cell? ⟨g, 8, none⟩ = some (.int .u8 ((bs.getD 8 0).toNat : Int)) := by rw [cell_of_row _ _ _ _ _ _ hq, secCells_get bs 8 (by omega)]; simp [show 8 < bs.length by omega]
 have h9 : w.cell? ⟨g, 9, none⟩ = some (.int .u8 ((bs.getD 9 0).toNat : Int)) := by rw [cell_of_row _ _ _ _ _ _ hq, secCells_get bs 9 (by omega)]; simp [show 9 < bs.length by omega]
 have l8 := (bs.getD 8 0).toNat_lt
 have l9 := (bs.getD 9 0).toNat_lt
 clear hq
 have HCN : Hid (cntOf bs = (bs.getD 8 0).toNat * 256 + (bs.getD 9 0).toNat) := by show _ = _; rfl
 generalize (bs.getD 8 0).toNat = x8 at *
 generalize (bs.getD 9 0).toNat = x9 at *
 have hor : bits .or .i64 ((x8 : Int) * 256) (x9 : Int) = ((cntOf bs : Nat) : Int) := by
  rw [HCN.out, ← or_i64 x8 x9 l8 l9]
 by_cases hnum : beval (bs.take 8) = s + 1
 · have hz : (((beval (bs.take 8) : Nat) : Int) != ((s : Int) + 1)) = false := by rw [hnum]; simp
   have HNUM := hide hnum
   clear hnum
   go_enter Tryz.func132, Tryz.ntmps132
   go_wp2
   refine wp_scope_forward 0 rfl ?_
   go_wp2_with (go_at_call 153; refine HN.out.mono ?_; rintro e w' ⟨rfl, hw⟩; have hw := hw.symm; subst hw)
   go_quiet (fail)
   clear hor h8 h9 HN hz l8 l9 HCN
   obtain ⟨n, hn⟩ : ∃ n, cntOf bs = n := ⟨_, rfl⟩
   rw [hn] at HV ⊢
   have HN := hide hn
   clear hn
   by_cases h1 : n < 1
   · have hW : V = .slice none 0 0 := by rw [← HV.out, if_neg (fun h : isThere bs s skip => by have := h.2.1; have := HN.out; omega)]
     subst hW
     go_wp2
     go_step3
     refine ⟨rfl, ?_⟩
     go_wp2
     rw [Exit.noGoto_ret]
     go_ret
     exact ⟨rfl, nq, rfl⟩
   · by_cases h2 : 118 < n
     · have hW : V = .slice none 0 0 := by rw [← HV.out, if_neg (fun h : isThere bs s skip => by have := h.2.2.1; have := HN.out; omega)]
       subst hW
       go_wp2
       go_step3
       refine ⟨rfl, ?_⟩
       go_wp2
       rw [Exit.noGoto_ret]
       go_ret
       exact ⟨rfl, nq, rfl⟩
     · by_cases h3 : n ≤ skip
       · have hW : V = .slice none 0 0 := by rw [← HV.out, if_neg (fun h : isThere bs s skip => by have := h.2.2.2; have := HN.out; omega)]
         subst hW
         go_wp2
         go_step3
         refine ⟨rfl, ?_⟩
         go_wp2
         rw [Exit.noGoto_ret]
         go_ret
         exact ⟨rfl, nq, rfl⟩
       · have HW : Hid (V = .slice (some ⟨g, 10 + skip, none⟩) (n - skip) (118 - skip)) := by
          show _ = _
          rw [← HV.out, if_pos (show isThere bs s skip from ⟨HNUM.out, by have := HN.out; omega, by have := HN.out; omega, by have := HN.out; omega⟩)]
         clear HV
         go_wp2
         rw [Exit.jump_ret]
         go_ret
         refine ⟨?_, nq, rfl⟩
         rw [HW.out]
         show Ending.returned (Value.slice (some ⟨g, 10 + skip, none⟩) (10 + n - (10 + skip)) (128 - (10 + skip))) = _
         rw [show 10 + n - (10 + skip) = n - skip by omega, show 128 - (10 + skip) = 118 - skip by omega]
 · have hz : (((beval (bs.take 8) : Nat) : Int) != ((s : Int) + 1)) = true := by simp; omega
   have hW : V = .slice none 0 0 := by rw [← HV.out, if_neg (fun h : isThere bs s skip => hnum h.1)]
   subst hW
   clear hnum
   go_enter Tryz.func132, Tryz.ntmps132
   go_wp2
   refine wp_scope_forward 0 rfl ?_
   go_wp2_with (go_at_call 153; refine HN.out.mono ?_; rintro e w' ⟨rfl, hw⟩; have hw := hw.symm; subst hw)
   go_step3
   refine ⟨rfl, ?_⟩
   go_wp2
   rw [Exit.noGoto_ret]
   go_ret
   exact ⟨rfl, 0, rfl⟩
end Go.Proofs.YteeembildppgmaaGreat
