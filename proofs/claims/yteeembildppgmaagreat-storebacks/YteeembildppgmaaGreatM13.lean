/- A part of it: PList SBack EPure. -/
import Derived.Test.YteeembildppgmaaGreatM12
import Derived.Test.YteeembildppgmaaGreatM9
import Derived.WalkKit
import Derived.Test.YteeembildppgmaaGreatRows
namespace Go.Proofs.YteeembildppgmaaGreat
open Go.RowKit
set_option linter.unusedVariables false
set_option linter.unusedSimpArgs false
def dirtL (l : List Fm) : List (Int × Int) := (l.filter (·.dirty)).map fun f => (f.page, f.rlsn)
def cellsD (l : List (Int × Int)) : List Value := (l.map encD).flatten
theorem dirtL_snoc (l : List Fm) (f : Fm) : dirtL (l ++ [f]) = if f.dirty = true then dirtL l ++ [(f.page, f.rlsn)] else dirtL l := by
 unfold dirtL
 rw [List.filter_append, List.map_append]
 by_cases h : f.dirty = true
 · rw [if_pos h]; simp [h]
 · rw [if_neg h]; simp [h]
theorem cellsD_snoc (l : List (Int × Int)) (x : Int × Int) : cellsD (l ++ [x]) = cellsD l ++ encD x := by simp [cellsD]
theorem dirtL_le (l : List Fm) : (dirtL l).length ≤ l.length := by unfold dirtL; rw [List.length_map]; exact List.length_filter_le _ _
theorem Tryz.info142 : (Tryz.prog.info? 142).map (fun i => (i.zero, i.size, i.bytes)) = some (some (.agg #[.int .i64 0, .int .i64 0]), 2, 16) := by kernel_rfl
theorem BytesOk.form {w : World} {bl : List Nat} {f : Fm} {v : Value} (h : BytesOk w bl f v) : ∃ a m c, v = .slice a m c := by
 rcases h with ⟨_, rfl⟩ | ⟨g, c, rfl, _⟩
 · exact ⟨_, _, _, rfl⟩
 · exact ⟨_, _, _, rfl⟩
section
variable {Φ : Back} {w0 w w' : World} {P G : Nat} {xs bl : List Nat} {vs : List Value} {S : Pl Φ.σ}
set_option maxHeartbeats 1000000 in
set_option maxRecDepth 100000 in
theorem ins_none (po : Option Addr) (c : Nat) (fv : Value) (W : World) : Calls Tryz.prog 168 #[.slice po 0 c, .int .i64 0, .int .i64 0, fv] W fun e w' => e = .returned (.tuple #[]) ∧ w' = W := by
 go_enter Tryz.func168, Tryz.ntmps168
 go_wp2
 refine wp_loop_rounds 1 ?_
 rw [rounds_succ]
 go_wp2
 go_end0
 exact ⟨rfl, rfl⟩
set_option maxHeartbeats 1000000 in
set_option maxRecDepth 100000 in
theorem pdq_none (po : Option Addr) (c : Nat) (l : Int) (fv : Value) (W : World) : Calls Tryz.prog 146 #[.slice po 0 c, .int .i64 0, .int .i64 0, .int .i64 l, fv] W fun e w' => e = .returned (.tuple #[]) ∧ w' = W := by
 have hi := ins_none po c fv
 go_enter Tryz.func146, Tryz.ntmps146
 go_wp2
 refine wp_loop_rounds 1 ?_
 rw [rounds_succ]
 go_wp2_with (go_at_call 168; refine (hi _).mono ?_; rintro e w' ⟨rfl, rfl⟩)
 (try simp only [Exit.inBlock, Exit.then]); refine bodyPost_ret (results_none rfl _ _ _) rfl ?_
 exact ⟨rfl, rfl⟩
set_option maxHeartbeats 1000000 in
set_option maxRecDepth 100000 in
theorem sort_none (po : Option Addr) (c : Nat) (fv : Value) (W : World) : Calls Tryz.prog 117 #[.slice po 0 c, fv] W fun e w' => e = .returned (.tuple #[]) ∧ w' = W := by
 have hp := fun l W => pdq_none po c l fv W
 have hl : ∀ W, Calls Tryz.prog 147 #[.int .u64 0] W fun e w' => (∃ l : Int, e = .returned (.int .i64 l)) ∧ w' = W := fun W => len_any 0 W (by omega)
 go_enter Tryz.func117, Tryz.ntmps117
 go_wp2_with (first
  | (go_at_call 147; refine (hl _).mono ?_; rintro e w' ⟨⟨l, rfl⟩, rfl⟩)
  | (go_at_call 146; refine (hp _ _).mono ?_; rintro e w' ⟨rfl, rfl⟩))
 go_end0
 exact ⟨rfl, rfl⟩
def DirtAt (w : World) (v : Value) (d : List (Int × Int)) : Prop :=
 ∃ ao c, v = .slice ao d.length c ∧ ∀ (j : Nat) x, d[j]? = some x → ∃ g, ao = some ⟨g, 0, none⟩ ∧ w.cell? ⟨g, j * 2, none⟩ = some (.int .i64 x.1) ∧ w.cell? ⟨g, j * 2 + 1, none⟩ = some (.int .i64 x.2)
theorem DirtAt.below {w w' : World} {v : Value} {d : List (Int × Int)} (h : DirtAt w v d) (hb : Below w.heap.size w w') : DirtAt w' v d := by
 obtain ⟨ao, c, h1, h2⟩ := h
 refine ⟨ao, c, h1, fun j x hx => ?_⟩
 obtain ⟨g, a1, a2, a3⟩ := h2 j x hx
 exact ⟨g, a1, (hb.cell (p := ⟨g, j * 2, none⟩) (World.block_lt_of_cell? w _ a2)).trans a2, (hb.cell (p := ⟨g, j * 2 + 1, none⟩) (World.block_lt_of_cell? w _ a3)).trans a3⟩
theorem holds_of_owns {w : World} {g : Nat} {cur : Array Value} {l : List (Int × Int)} (hg : w.heap[g]? = some (.cells cur 142 (0, 0))) (ht : cur.toList.take (l.length * 2) = cellsD l) : Go.Sort.HoldsK encD 2 w g 0 l.toArray := by
 intro j hj
 rw [Go.Sort.size_flatK] at hj
 have hj' : j < l.length * 2 := by simpa using hj
 have e : (cellsD l)[j]? = some ((Go.Sort.flatK encD 2 l.toArray)[j]!) := by
  rw [Go.Sort.get_flatK _ _ _ _ hj]
  have := flat_get 2 (l.map encD) (fun x hx => by obtain ⟨y, _, rfl⟩ := List.mem_map.1 hx; rfl) (j / 2) (by rw [List.length_map]; omega) (j % 2) (by omega)
  rw [show j / 2 * 2 + j % 2 = j by omega] at this
  unfold cellsD
  rw [this, List.getElem_map, getElem!_pos l.toArray (j / 2) (by simp; omega), List.getElem_toArray]
  have h2 : j % 2 = 0 ∨ j % 2 = 1 := by omega
  rcases h2 with h2 | h2 <;> rw [h2] <;> rfl
 refine ⟨?_, frozen_of_row w g _ _ _ hg⟩
 rw [Nat.zero_add, cell_of_row w g j _ _ _ hg]
 rw [← ht, List.getElem?_take, if_pos hj'] at e
 simpa using e
theorem dirt_of_holds {w : World} {g c : Nat} {d : Array (Int × Int)} (h : Go.Sort.HoldsK encD 2 w g 0 d) : DirtAt w (.slice (some ⟨g, 0, none⟩) d.size c) d.toList := by
 refine ⟨some ⟨g, 0, none⟩, c, by simp, fun j x hx => ?_⟩
 obtain ⟨hj, rfl⟩ := List.getElem?_eq_some_iff.1 hx
 have hj' : j < d.size := by simpa using hj
 have a1 := (h.cell (i := j) (c := 0) hj' (by omega)).1
 have a2 := (h.cell (i := j) (c := 1) hj' (by omega)).1
 rw [getElem!_pos d j hj'] at a1 a2
 rw [Nat.zero_add] at a1 a2
 exact ⟨g, rfl, a1, a2⟩
end
end Go.Proofs.YteeembildppgmaaGreat
namespace Go.Proofs.YteeembildppgmaaGreat
open Go.RowKit
set_option linter.unusedVariables false
set_option linter.unusedSimpArgs false
theorem newest_wrote (D : Dv) (i j : Nat) (bs : List UInt8) : (D.wrote i bs).newest j = if i = j then bs else D.newest j := by
 unfold Dv.newest
 rw [show (D.wrote i bs).W = D.W ++ [(i, bs)] from rfl, show (D.wrote i bs).L = D.L from rfl, List.reverse_append, List.reverse_singleton, List.singleton_append, List.find?_cons]
 by_cases e : i = j
 · subst e; simp
 · have : (i == j) = false := by simpa using e
   rw [if_neg e]
   simp [this]
theorem laid_getD (L : List (List UInt8)) (j : Nat) (hj : j < L.length) : ∀ V : List (Nat × List UInt8), (laidOver L V.reverse).getD j [] = match V.find? (fun x => x.1 == j) with | some x => x.2 | none => L.getD j []
 | [] => rfl
 | x :: r => by
   have ih := laid_getD L j hj r
   rw [List.reverse_cons, laidOver_snoc, List.find?_cons]
   by_cases e : x.1 = j
   · have h2 : j < (laidOver L r.reverse).length := by rw [length_laidOver]; exact hj
     subst e
     simp [h2]
   · have : (x.1 == j) = false := by simpa using e
     rw [this]
     simp only [List.getD_eq_getElem?_getD] at ih ⊢
     rw [List.getElem?_set_ne e]
     exact ih
theorem laid_newest (D : Dv) (j : Nat) (hj : j < D.L.length) : (laidOver D.L D.W).getD j [] = D.newest j := by
 have := laid_getD D.L j hj D.W.reverse
 rw [List.reverse_reverse] at this
 exact this
theorem newest_synced (D : Dv) (j : Nat) (hj : j < D.L.length) : D.synced.newest j = D.newest j := by
 rw [newest_L (D := D.synced) rfl]
 exact laid_newest D j hj
theorem place_ne {R : Rg} (hw : R.wf) (s j : Nat) (hj : j < R.fr ∨ R.fr + R.n ≤ j) : R.place s ≠ j := by
 unfold Rg.place
 have := Nat.mod_lt s (show R.n > 0 by have := hw.two; omega)
 omega
theorem putN_out {R : Rg} (hw : R.wf) (n0 : Nat) (hn : R.fr + R.n ≤ n0) (j : Nat) (hj : j < R.fr ∨ R.fr + R.n ≤ j) : ∀ (k s : Nat) (D : Dv), D.well → D.L.length = n0 → (∀ t, s ≤ t → t < s + k → R.puts t) → (R.putN s k D).2.newest j = D.newest j
 | 0, s, D, h, _, _ => rfl
 | k + 1, s, D, h, hl, hp => by
   obtain ⟨e, hw2⟩ := well_put1 hw h (by rw [hl]; exact hn) s (hp s (by omega) (by omega))
   have e1 : R.putN s (k + 1) D = R.putN (s + 1) k (D.wrote (R.place s) (R.img s (D.newest (R.place s)))) := by
    show (if (R.put1 D s).1 ≠ 0 then R.put1 D s else R.putN (s + 1) k (R.put1 D s).2) = _
    rw [e, if_neg (by simp)]
   rw [e1, putN_out hw n0 hn j hj k (s + 1) _ hw2 hl (fun t h1 h2 => hp t (by omega) (by omega)), newest_wrote, if_neg (place_ne hw s j hj)]
theorem layD_out {R : Rg} (hw : R.wf) {D : Dv} (h : D.well) (hn : R.fr + R.n ≤ D.L.length) (f l : Nat) (hfl : f ≤ l) (hp1 : R.start ≤ f * 118 + 117) (hp2 : l * 118 < R.tail) (j : Nat) (hj : j < R.fr ∨ R.fr + R.n ≤ j) (hjl : j < D.L.length) :
 (R.layD D f l).2.newest j = D.newest j := by
 obtain ⟨a1, a2, a3⟩ := well_putN hw D.L.length hn (l - f) (f + 1) D h rfl (fun t h1 h2 => ⟨by omega, by omega⟩)
 have a4 := putN_out hw D.L.length hn j hj (l - f) (f + 1) D h rfl (fun t h1 h2 => ⟨by omega, by omega⟩)
 obtain ⟨E, hE⟩ : ∃ E, (R.putN (f + 1) (l - f) D).2 = E := ⟨_, rfl⟩
 rw [hE] at a2 a3 a4
 have b0 : R.layD D f l = R.lay1 E f l := by unfold Rg.layD; rw [a1, if_neg (by simp), hE]
 have hpl : R.place (l + 1) < E.L.length := Rg.place_lt hw E (by rw [a3]; exact hn) (l + 1)
 have b1 : R.lay1 E f l = R.lay2 (E.wrote (R.place (l + 1)) (zerosN 128)) f := by
  unfold Rg.lay1
  rw [live_write E _ _ a2.live hpl (length_zerosN 128), if_neg (show ¬ E.fuse = 0 by have := a2.fuse; omega), if_neg (by simp)]
 have w1 := well_wrote a2 _ (zerosN 128) hpl (length_zerosN 128)
 have n1 : (E.wrote (R.place (l + 1)) (zerosN 128)).newest j = D.newest j := by rw [newest_wrote, if_neg (place_ne hw _ j hj)]; exact a4
 obtain ⟨E1, hE1⟩ : ∃ E1, E.wrote (R.place (l + 1)) (zerosN 128) = E1 := ⟨_, rfl⟩
 have l1 : E1.L = D.L := by rw [← hE1]; exact a3
 rw [hE1] at b1 w1 n1
 have b2 : R.lay2 E1 f = R.lay3 E1.synced f := by
  unfold Rg.lay2
  rw [live_sync E1 w1.live, if_neg (show ¬ E1.fuse = 0 by have := w1.fuse; omega), if_neg (by simp)]
 have w2 := well_synced w1
 have l2 : E1.synced.L.length = D.L.length := by
  show (laidOver _ _).length = _
  rw [length_laidOver, l1]
 obtain ⟨e3, w3⟩ := well_put1 hw w2 (by rw [l2]; exact hn) f ⟨hp1, by omega⟩
 have b3 : R.lay3 E1.synced f = (0, (E1.synced.wrote (R.place f) (R.img f (E1.synced.newest (R.place f)))).synced) := by
  unfold Rg.lay3
  rw [e3, if_neg (by simp), live_sync _ w3.live, if_neg (by have := w3.fuse; omega)]
 rw [b0, b1, b2, b3]
 show (Dv.synced _).newest j = _
 rw [newest_synced _ j (by show j < E1.synced.L.length; rw [l2]; exact hjl), newest_wrote, if_neg (place_ne hw _ j hj), newest_synced E1 j (by rw [l1]; exact hjl), n1]
theorem flushD_out {R : Rg} (hw : R.wf) {D : Dv} (h : D.well) (hn : R.fr + R.n ≤ D.L.length) (he : R.fin ≠ R.tail) (j : Nat) (hj : j < R.fr ∨ R.fr + R.n ≤ j) (hjl : j < D.L.length) : (R.flushD D).2.newest j = D.newest j := by
 have h1 := hw.lo
 have h2 := hw.hi
 exact layD_out hw h hn _ _ (by omega) (by omega) (by omega) j hj hjl

theorem Fs.writeL {w0 w w' : World} {q p fr n : Nat} {failed : Bool} {xs ys Z : List Nat} {D : Dv} (h : Fs w0 w q p fr n failed xs D) (hZ : ∀ k ∈ Z, k ∈ xs ∧ w0.heap.size ≤ k) (hO : Off Z w w') (hy : ∀ k ∈ ys, k ∈ xs ∨ (w.heap.size ≤ k ∧ k < w'.heap.size)) : Fs w0 w' q p fr n failed ys D := by
 obtain ⟨fp, x⟩ := h
 refine ⟨fp, x.fl.off hO (fun hm => x.qx (hZ q hm).1), ⟨x.dv.dev.apart hO (fun k hk hm => (x.dv.xs k (hZ k hm).1).2 hk), x.dv.f0, fun k hk => ?_, ?_⟩, x.nq, x.q0, fun hm => ?_⟩
 · rcases hy k hk with h1 | h1
   · exact ⟨Nat.lt_of_lt_of_le (x.dv.xs k h1).1 hO.size, (x.dv.xs k h1).2⟩
   · exact ⟨h1.2, fun hm => by have := x.dv.dev.lim k hm; omega⟩
 · exact x.dv.below.trans (hO.below x.dv.below.size (fun k hk => (hZ k hk).2))
 · rcases hy q hm with h1 | h1
   · exact x.qx h1
   · have := x.fl.lt; omega
theorem Fs.lts {w0 w : World} {q p fr n : Nat} {failed : Bool} {xs : List Nat} {D : Dv} (h : Fs w0 w q p fr n failed xs D) {k : Nat} (hk : k ∈ xs) : k < w.heap.size := let ⟨_, x⟩ := h; (x.dv.xs k hk).1
theorem DevAt.wc_self {w : World} {p : Nat} {fp : List Nat} {D : Dv} (h : DevAt w p fp D) : DevC w p fp D := ⟨D.calls, h⟩
structure BkIs (w0 w : World) (r q p b lg n : Nat) (xs gp : List Nat) (R : Rg) (dk : List (List UInt8)) (D : Dv) : Prop where
 fs : Fs w0 w q p (2 + lg) n false (b :: (gp ++ xs)) D
 rg : RgAt w r p gp R
 box : w.heap[b]? = some (.cells #[.pointer (some ⟨r, 0, none⟩)] 61 (0, 0))
 g0 : ∀ k ∈ gp, w0.heap.size ≤ k
 b0 : w0.heap.size ≤ b
 gx : ∀ k ∈ gp, k ∉ xs
 bx : b ∉ gp ++ xs
 well : D.well
 wnil : D.W = []
 len : 2 + lg + 5 + 4 * n ≤ D.L.length
 disk : ∀ i, i < n → pageL D.L (2 + lg + 5 + 4 * i) = dk.getD i []
 dlen : dk.length = n
 d512 : ∀ i, i < n → (dk.getD i []).length = 512
 fr : R.fr = 2
 rn : R.n = lg
 nof : R.failed = false
def BkAt (w0 w : World) (r q p b lg n : Nat) (xs : List Nat) (s : Rg × List (List UInt8)) : Prop := ∃ gp D, BkIs w0 w r q p b lg n xs gp s.1 s.2 D
section
variable {w0 w w' : World} {r q p b lg n : Nat} {xs gp gp' : List Nat} {R R' : Rg} {dk : List (List UInt8)} {D : Dv} {s : Rg × List (List UInt8)}
theorem BkIs.at (h : BkIs w0 w r q p b lg n xs gp R dk D) : BkAt w0 w r q p b lg n xs (R, dk) := ⟨_, _, h⟩
theorem BkIs.lt (h : BkIs w0 w r q p b lg n xs gp R dk D) {k : Nat} (hk : k ∈ xs) : k < w.heap.size := h.fs.lts (by simp [hk])
theorem RgAt.keep {w w' : World} {r p : Nat} {gp : List Nat} {R : Rg} (h : RgAt w r p gp R) (hs : w.heap.size ≤ w'.heap.size) (hk : ∀ k ∈ gp, w'.heap[k]? = w.heap[k]?) : RgAt w' r p gp R := by
 obtain ⟨hv, h⟩ := h
 exact ⟨hv, h.stay hs (fun k hk' => hk k (by rcases hk' with rfl | h1; exact h.inQ; exact h.inH k h1))⟩
theorem BkIs.file (h : BkIs w0 w r q p b lg n xs gp R dk D) {ys : List Nat} {dk' : List (List UInt8)} {D' : Dv} (hF : Fs w0 w' q p (2 + lg) n false (b :: (gp ++ ys)) D') (hK : Kept (b :: (gp ++ xs)) w w') (hy : ∀ k ∈ ys, k ∈ xs ∨ w.heap.size ≤ k) (hw : D'.well) (hn : D'.W = []) (hl : D'.L.length = D.L.length)
 (hd : ∀ i, i < n → pageL D'.L (2 + lg + 5 + 4 * i) = dk'.getD i []) (hdl : dk'.length = n) (h5 : ∀ i, i < n → (dk'.getD i []).length = 512) : BkIs w0 w' r q p b lg n ys gp R dk' D' :=
 { h with
   fs := hF
   rg := h.rg.keep hK.1 (fun k hk => hK.2 k (by simp [hk]))
   box := (hK.2 b (by simp)).trans h.box
   gx := fun k hk hm => by
    rcases hy k hm with h1 | h1
    · exact h.gx k hk h1
    · have := h.fs.lts (k := k) (by simp [hk]); omega
   bx := fun hm => by
    rcases List.mem_append.1 hm with h1 | h1
    · exact h.bx (by simp [h1])
    · rcases hy b h1 with h2 | h2
      · exact h.bx (by simp [h2])
      · have := h.fs.lts (k := b) (by simp); omega
   well := hw
   wnil := hn
   len := by rw [hl]; exact h.len
   disk := hd
   dlen := hdl
   d512 := h5 }
theorem BkIs.ring (h : BkIs w0 w r q p b lg n xs gp R dk D) (hO : Off gp w w') (hR : RgAt w' r p gp' R') (hG : ∀ k ∈ gp', k ∈ gp ∨ w.heap.size ≤ k) (h1 : R'.fr = R.fr) (h2 : R'.n = R.n) (h3 : R'.failed = R.failed) : BkIs w0 w' r q p b lg n xs gp' R' dk D ∧ Kept xs w w' := by
 have hK : ∀ k, k ∉ gp → k ∈ b :: (gp ++ xs) → w'.heap[k]? = w.heap[k]? := fun k hn hm => hO.block k (h.fs.lts hm) hn
 have hbg : b ∉ gp := fun hm => h.bx (by simp [hm])
 refine ⟨{ h with
  fs := h.fs.writeL (Z := gp) (fun k hk => ⟨by simp [hk], h.g0 k hk⟩) hO (fun k hm => by
   simp only [List.mem_cons, List.mem_append] at hm ⊢
   rcases hm with h4 | h4 | h4
   · exact .inl (.inl h4)
   · rcases hG k h4 with h5 | h5
     · exact .inl (.inr (.inl h5))
     · exact .inr ⟨h5, rg_lim hR k h4⟩
   · exact .inl (.inr (.inr h4)))
  rg := hR
  box := (hK b hbg (by simp)).trans h.box
  g0 := fun k hk => by
   rcases hG k hk with h5 | h5
   · exact h.g0 k h5
   · have := h.fs.below.size; omega
  gx := fun k hk hm => by
   rcases hG k hk with h5 | h5
   · exact h.gx k h5 hm
   · have := h.lt hm; omega
  bx := fun hm => by
   rcases List.mem_append.1 hm with h4 | h4
   · rcases hG b h4 with h5 | h5
     · exact hbg h5
     · have := h.fs.lts (k := b) (by simp); omega
   · exact h.bx (by simp [h4])
  fr := by rw [h1]; exact h.fr
  rn := by rw [h2]; exact h.rn
  nof := by rw [h3]; exact h.nof }, hO.size, fun k hk => hK k (fun hm => h.gx k hm hk) (by simp [hk])⟩
theorem BkIs.mindNew (h : BkIs w0 w r q p b lg n xs gp R dk D) (hb : Below w.heap.size w w') {ys : List Nat} (hy : ∀ k ∈ ys, k ∈ xs ∨ (w.heap.size ≤ k ∧ k < w'.heap.size)) : BkIs w0 w' r q p b lg n ys gp R dk D :=
 h.file (h.fs.mindNew hb (fun k hm => by
  simp only [List.mem_cons, List.mem_append] at hm ⊢
  rcases hm with h4 | h4 | h4
  · exact .inl (.inl h4)
  · exact .inl (.inr (.inl h4))
  · rcases hy k h4 with h5 | h5
    · exact .inl (.inr (.inr h5))
    · exact .inr h5)) ⟨hb.size, fun k hk => hb.block k (h.fs.lts hk)⟩ (fun k hk => by rcases hy k hk with h5 | h5; exact .inl h5; exact .inr h5.1) h.well h.wnil rfl h.disk h.dlen h.d512
theorem BkIs.writeL (h : BkIs w0 w r q p b lg n xs gp R dk D) {Z ys : List Nat} (hZ : ∀ k ∈ Z, k ∈ xs ∧ w0.heap.size ≤ k) (hO : Off Z w w') (hy : ∀ k ∈ ys, k ∈ xs ∨ (w.heap.size ≤ k ∧ k < w'.heap.size)) : BkIs w0 w' r q p b lg n ys gp R dk D := by
 have hK : ∀ k, k ∉ xs → k ∈ b :: (gp ++ xs) → w'.heap[k]? = w.heap[k]? := fun k hn hm => hO.block k (h.fs.lts hm) (fun hz => hn (hZ k hz).1)
 exact { h with
  fs := h.fs.writeL (fun k hk => ⟨by simp [(hZ k hk).1], (hZ k hk).2⟩) hO (fun k hm => by
   simp only [List.mem_cons, List.mem_append] at hm ⊢
   rcases hm with h4 | h4 | h4
   · exact .inl (.inl h4)
   · exact .inl (.inr (.inl h4))
   · rcases hy k h4 with h5 | h5
     · exact .inl (.inr (.inr h5))
     · exact .inr h5)
  rg := h.rg.keep hO.size (fun k hk => hK k (h.gx k hk) (by simp [hk]))
  box := (hK b (fun hm => h.bx (by simp [hm])) (by simp)).trans h.box
  gx := fun k hk hm => by
   rcases hy k hm with h5 | h5
   · exact h.gx k hk h5
   · have := h.fs.lts (k := k) (by simp [hk]); omega
  bx := fun hm => by
   rcases List.mem_append.1 hm with h4 | h4
   · exact h.bx (by simp [h4])
   · rcases hy b h4 with h5 | h5
     · exact h.bx (by simp [h5])
     · have := h.fs.lts (k := b) (by simp); omega }
theorem bk_flush (h : BkIs w0 w r q p b lg n xs gp R dk D) :
 Calls Tryz.prog 68 #[.pointer (some ⟨r, 0, none⟩)] w fun e w' => e = .returned (.int .i64 0) ∧ (∃ D', BkIs w0 w' r q p b lg n xs gp { R with fin := R.tail } dk D') ∧ Kept xs w w' := by
 obtain ⟨fp, x⟩ := h.fs
 have hlen := h.len
 have hsz := x.dv.below.size
 refine (flush_well h.rg x.dv.dev.wc_self (fun k hk => (x.dv.xs k (by simp [hk])).2) h.well (by rw [h.fr, h.rn]; omega) h.wnil h.nof).mono ?_
 rintro e w' ⟨rfl, fp', D', a1, ⟨c, a2⟩, a3, a4, a5, a6, _, a8, a9, a10⟩
 have hne : ∀ k ∈ xs, k ∉ gp ++ fp := fun k hk hm => by
  rcases List.mem_append.1 hm with h1 | h1
  · exact h.gx k h1 hk
  · exact (x.dv.xs k (by simp [hk])).2 h1
 have hbn : b ∉ gp ++ fp := fun hm => by
  rcases List.mem_append.1 hm with h1 | h1
  · exact h.bx (by simp [h1])
  · exact (x.dv.xs b (by simp)).2 h1
 have hq : q ∉ gp ++ fp := fun hm => by
  rcases List.mem_append.1 hm with h1 | h1
  · exact x.qx (by simp [h1])
  · exact x.nq h1
 have hout : ∀ j, 2 + lg ≤ j → j < D.L.length → D'.L.getD j [] = D.L.getD j [] := fun j hj hjl => by
  rw [← newest_L a5, ← newest_L h.wnil]
  rcases a6 with rfl | rfl
  · rfl
  · by_cases he : R.fin = R.tail
    · exact (congrArg (fun X => Dv.newest X j) (a8 he))
    · exact flushD_out h.rg.wf h.well (by rw [h.fr, h.rn]; omega) he j (by rw [h.fr, h.rn]; exact .inr hj) hjl
 refine ⟨rfl, ⟨D'.wc c, { h with
  fs := ⟨fp', x.fl.off a9 hq, ⟨a2, fun k hk => ?_, fun k hk => ⟨Nat.lt_of_lt_of_le (x.dv.xs k hk).1 a9.size, fun hm => ?_⟩, x.dv.below.trans (a9.below hsz (fun k hk => ?_))⟩, fun hm => ?_, x.q0, x.qx⟩
  rg := a1
  box := (a9.block b (h.fs.lts (by simp)) hbn).trans h.box
  well := ⟨a2.wf, a3.live, a3.fuse⟩
  wnil := a5
  len := by show _ ≤ D'.L.length; rw [a4]; exact h.len
  disk := fun i hi => by
   rw [← h.disk i hi]
   show pageL D'.L _ = _
   unfold pageL
   rw [hout _ (by omega) (by omega), hout _ (by omega) (by omega), hout _ (by omega) (by omega), hout _ (by omega) (by omega)] }⟩, a9.size, fun k hk => a9.block k (h.lt hk) (hne k hk)⟩
 · rcases a10 k hk with h1 | h1
   · exact x.dv.f0 k h1
   · omega
 · rcases a10 k hm with h1 | h1
   · exact (x.dv.xs k hk).2 h1
   · have := (x.dv.xs k hk).1; omega
 · rcases List.mem_append.1 hk with h1 | h1
   · exact h.g0 k h1
   · exact x.dv.f0 k h1
 · rcases a10 q hm with h1 | h1
   · exact x.nq h1
   · have := x.fl.lt; omega
theorem bk_fread (h : BkIs w0 w r q p b lg n xs gp R dk D) (i : Nat) (hi : i < n) :
 Calls Tryz.prog 94 #[.pointer (some ⟨q, 0, none⟩), .int .i64 (i : Int)] w fun e w' => ∃ g, e = .returned (.tuple #[.slice (some ⟨g, 0, none⟩) 512 512, .int .i64 0]) ∧ w.heap.size ≤ g ∧ w'.heap[g]? = some (.cells (secCells (dk.getD i [])).toArray 5 (0, 0)) ∧
  (∃ D', BkIs w0 w' r q p b lg n (g :: xs) gp R dk D') ∧ Kept xs w w' := by
 have hlen := h.len
 refine (b_read i h.fs h.well.live (by rw [h.wnil]; simp) (by omega) hi).mono ?_
 rintro e w' ⟨g, rfl, hg, hblk, hF, hK⟩
 rw [four_L h.wnil, h.disk i hi] at hblk
 refine ⟨g, rfl, hg, hblk, ⟨D.more 4, h.file (hF.mind (fun k hk => .inl (by
  simp only [List.mem_cons, List.mem_append] at hk ⊢
  rcases hk with h3 | h3 | h3 | h3
  · exact .inr (.inl h3)
  · exact .inr (.inr (.inl h3))
  · exact .inl h3
  · exact .inr (.inr (.inr h3))))) hK (fun k hk => ?_) (well_more h.well 4) (by rw [more_W]; exact h.wnil) (by rw [more_L]) (fun j hj => by rw [more_L]; exact h.disk j hj) h.dlen h.d512⟩, ⟨hK.1, fun k hk => hK.2 k (by simp [hk])⟩⟩
 rcases List.mem_cons.1 hk with h3 | h3
 · exact .inr (by omega)
 · exact .inl h3
theorem bk_fwrite (h : BkIs w0 w r q p b lg n xs gp R dk D) (i g c : Nat) (bs : List UInt8) (hl : bs.length = 512) (hc : 512 ≤ c) (hg : g ∈ xs) (hs : SrcAt w g 0 bs) (hi : i < n) :
 Calls Tryz.prog 116 #[.pointer (some ⟨q, 0, none⟩), .int .i64 (i : Int), .slice (some ⟨g, 0, none⟩) 512 c] w fun e w' => e = .returned (.int .i64 0) ∧
  (∃ D', BkIs w0 w' r q p b lg n xs gp R (dk.set i bs) D') ∧ Kept xs w w' := by
 have hlen := h.len
 obtain ⟨fp, x⟩ := h.fs
 obtain ⟨E, e1, e2, e3, e4, e5⟩ := carJ_well h.well h.wnil (2 + lg) i n bs hl (by omega) hi
 have hmax := x.dv.dev.wf.max
 refine (fwrite_go i g c bs hl hc x.fl x.dv.dev x.nq hs (x.dv.xs g (by simp [hg])).2 (by rw [h.wnil]; simp) (by omega) hi (by omega)).mono ?_
 rintro e w' ⟨rfl, fp', h1, h2, h3, h4, h5⟩
 rw [e1] at h1 h2 ⊢
 have hsz := x.dv.below.size
 have hF : Fs w0 w' q p (2 + lg) n false (b :: (gp ++ xs)) E := by
  refine ⟨fp', h1, ⟨h2, fun k hk => ?_, fun k hk => ⟨Nat.lt_of_lt_of_le (x.dv.xs k hk).1 h3.size, fun hm => ?_⟩, x.dv.below.trans (h3.below hsz (fun k hk => ?_))⟩, h5, x.q0, x.qx⟩
  · rcases h4 k hk with h6 | h6
    · exact x.dv.f0 k h6
    · omega
  · rcases h4 k hm with h6 | h6
    · exact (x.dv.xs k hk).2 h6
    · have := (x.dv.xs k hk).1; omega
  · rcases List.mem_cons.1 hk with h6 | h6
    · rw [h6]; exact x.q0
    · exact x.dv.f0 k h6
 have hK : Kept (b :: (gp ++ xs)) w w' := ⟨h3.size, fun k hk => h3.block k (x.dv.xs k hk).1 (fun hm => by
  rcases List.mem_cons.1 hm with h6 | h6
  · exact x.qx (h6 ▸ hk)
  · exact (x.dv.xs k hk).2 h6)⟩
 refine ⟨rfl, ⟨E, h.file hF hK (fun k hk => .inl hk) e2 e3 (by rw [e4, length_wroteL]) (fun j hj => ?_) (by rw [List.length_set]; exact h.dlen) (fun j hj => ?_)⟩, ⟨hK.1, fun k hk => hK.2 k (by simp [hk])⟩⟩
 · rw [e4, page_wroteL D.L (2 + lg) i j n bs hl (by omega) hi hj]
   by_cases e : j = i
   · rw [if_pos e, e, List.getD_eq_getElem?_getD, List.getElem?_set_self (by rw [h.dlen]; exact hi)]
     rfl
   · rw [if_neg e, h.disk j hj, List.getD_eq_getElem?_getD, List.getD_eq_getElem?_getD, List.getElem?_set_ne (Ne.symm e)]
 · by_cases e : j = i
   · rw [e, List.getD_eq_getElem?_getD, List.getElem?_set_self (by rw [h.dlen]; exact hi)]
     exact hl
   · rw [List.getD_eq_getElem?_getD, List.getElem?_set_ne (Ne.symm e), ← List.getD_eq_getElem?_getD]
     exact h.d512 j hj
set_option maxHeartbeats 400000 in
theorem bk_force (h : BkIs w0 w r q p b lg n xs gp R dk D) (l : Int) :
 Calls Tryz.prog 75 #[.int .i64 l, .pointer (some ⟨b, 0, none⟩)] w fun e w' => e = .returned (.int .i64 0) ∧ BkAt w0 w' r q p b lg n xs (if (R.fin : Int) < l then ({ R with fin := R.tail }, dk) else (R, dk)) ∧ Kept xs w w' := by
 have kb : w.cell? ⟨b, 0, none⟩ = some (.pointer (some ⟨r, 0, none⟩)) := by rw [cell_of_row w b 0 _ _ _ h.box]; rfl
 have HE := hide (end_any h.rg)
 have HF := hide (bk_flush h)
 have H := hide h
 clear h
 obtain ⟨F, hF⟩ : ∃ F : Nat, R.fin = F := ⟨_, rfl⟩
 rw [hF] at HE ⊢
 clear hF
 by_cases hl : (F : Int) < l
 · rw [if_pos hl]
   go_enter Tryz.func75, Tryz.ntmps75
   go_wp2_with (first
    | (go_at_call 76; refine HE.out.mono ?_; rintro e w' ⟨rfl, hw⟩; have hw := hw.symm; subst hw)
    | (go_at_call 68; refine HF.out.mono ?_; rintro e w2 ⟨rfl, h2, hK2⟩; have H2 := hide (And.intro h2 hK2); clear h2 hK2))
   go_ret
   obtain ⟨D2, h2⟩ := H2.out.1
   exact ⟨rfl, h2.at, H2.out.2⟩
 · rw [if_neg hl]
   go_enter Tryz.func75, Tryz.ntmps75
   go_wp2_with (go_at_call 76; refine HE.out.mono ?_; rintro e w' ⟨rfl, hw⟩; have hw := hw.symm; subst hw)
   go_ret
   exact ⟨rfl, H.out.at, Kept.refl _ _⟩
end
@[reducible] def stBack (r q p b lg n : Nat) : Back := {
  σ := Rg × List (List UInt8)
  q := q
  n := n
  g := 75
  cb := #[.pointer (some ⟨b, 0, none⟩)]
  held := fun w0 w xs s => BkAt w0 w r q p b lg n xs s
  step := fun s l => (0, if (s.1.fin : Int) < l then ({ s.1 with fin := s.1.tail }, s.2) else s)
  disk := fun s i => s.2.getD i []
  wr := fun s i bs => (s.1, s.2.set i bs)
  lts := fun h hk => let ⟨_, _, x⟩ := h; x.lt hk
  below := fun h => let ⟨_, _, x⟩ := h; x.fs.below
  mindNew := fun h hb hy => let ⟨_, _, x⟩ := h; ⟨_, _, x.mindNew hb hy⟩
  writeL := fun h hZ hO hy => let ⟨_, _, x⟩ := h; ⟨_, _, x.writeL hZ hO hy⟩
  d512 := fun h hi => let ⟨_, _, x⟩ := h; x.d512 _ hi
  enters := fun args w => by kernel_rfl
  force := fun h _ _ => let ⟨_, _, x⟩ := h; bk_force x _
  pages := fun h => let ⟨_, _, x⟩ := h; b_pages x.fs
  fread := fun h hi => let ⟨_, _, x⟩ := h; (bk_fread x _ hi).mono (fun _ _ ⟨g, a1, a2, a3, ⟨_, a4⟩, a5⟩ => ⟨g, a1, a2, a3, ⟨_, _, a4⟩, a5⟩)
  fwrite := fun h hl hc hb hs hi => let ⟨_, _, x⟩ := h; (bk_fwrite x _ _ _ _ hl hc hb hs hi).mono (fun _ _ ⟨a1, ⟨_, a2⟩, a3⟩ => ⟨a1, ⟨_, _, a2⟩, a3⟩) }
end Go.Proofs.YteeembildppgmaaGreat
namespace Go.Proofs.YteeembildppgmaaGreat.Enc
open Go.RowKit
set_option linter.unusedVariables false
set_option linter.unusedSimpArgs false
theorem hide {p : Prop} (h : p) : Hid p := h
def beval (bs : List UInt8) : Nat := bs.foldl (fun v c => v * 256 + c.toNat) 0
theorem beval_snoc (bs : List UInt8) (c : UInt8) : beval (bs ++ [c]) = beval bs * 256 + c.toNat := by simp [beval]
theorem befold_lt : ∀ (bs : List UInt8) (v : Nat), bs.foldl (fun v c => v * 256 + c.toNat) v < (v + 1) * 256 ^ bs.length
 | [], v => by simp
 | c :: r, v => by
   rw [List.foldl_cons, List.length_cons, Nat.pow_succ]
   refine Nat.lt_of_lt_of_le (befold_lt r _) ?_
   have := c.toNat_lt
   calc (v * 256 + c.toNat + 1) * 256 ^ r.length ≤ ((v + 1) * 256) * 256 ^ r.length := Nat.mul_le_mul_right _ (by omega)
    _ = (v + 1) * (256 ^ r.length * 256) := by rw [Nat.mul_assoc, Nat.mul_comm 256]
theorem beval_lt (bs : List UInt8) : beval bs < 256 ^ bs.length := by
 have := befold_lt bs 0
 simpa [beval] using this
def be8 (v : Nat) : List UInt8 := (List.range 8).map fun i => UInt8.ofNat (v / 256 ^ (7 - i) % 256)
theorem length_be8 (v : Nat) : (be8 v).length = 8 := by simp [be8]
theorem be8_get (v k : Nat) (h : k < 8) : (be8 v)[k]'(by rw [length_be8]; exact h) = UInt8.ofNat (v / 256 ^ (7 - k) % 256) := by simp [be8]
theorem beval_be8_take (v : Nat) (hv : v < 18446744073709551616) : ∀ k, k ≤ 8 → beval ((be8 v).take k) = v / 256 ^ (8 - k)
 | 0, _ => by simp [beval]; omega
 | k + 1, h => by
   rw [List.take_succ_eq_append_getElem (by rw [length_be8]; omega), beval_snoc, beval_be8_take v hv k (by omega), be8_get v k (by omega), UInt8.toNat_ofNat', Nat.mod_mod]
   have e : 256 ^ (8 - k) = 256 ^ (7 - k) * 256 := by rw [← Nat.pow_succ]; congr 1; omega
   rw [e, ← Nat.div_div_eq_div_mul, show 8 - (k + 1) = 7 - k by omega]
   omega
theorem beval_be8 (v : Nat) (hv : v < 18446744073709551616) : beval (be8 v) = v := by
 have := beval_be8_take v hv 8 (Nat.le_refl _)
 rw [List.take_of_length_le (by rw [length_be8]; exact Nat.le_refl _)] at this
 simpa using this
def num (x : Int) : List UInt8 := be8 x.toNat
theorem length_num (x : Int) : (num x).length = 8 := length_be8 _

structure Rc where
 kind : Int
 txn : Int
 prev : Int
 next : Int
 page : Int
 off : Int
 before : List UInt8
 after : List UInt8
 txns : List (Int × Int × Int)
 dirty : List (Int × Int)
 count : Int
def Rc.zero : Rc := ⟨0, 0, 0, 0, 0, 0, [], [], [], [], 0⟩
def encNums (l : List Int) : List UInt8 := l.flatMap num
theorem length_encNums : ∀ l : List Int, (encNums l).length = 8 * l.length
 | [] => rfl
 | x :: r => by
   have := length_encNums r
   simp only [encNums, List.flatMap_cons, List.length_append, length_num, List.length_cons] at this ⊢
   omega
def encTx (t : Int × Int × Int) : List UInt8 := encNums [t.1, t.2.1, t.2.2]
def encDt (t : Int × Int) : List UInt8 := encNums [t.1, t.2]
def encTxs (l : List (Int × Int × Int)) : List UInt8 := l.flatMap encTx
def encDts (l : List (Int × Int)) : List UInt8 := l.flatMap encDt
theorem length_encTxs : ∀ l, (encTxs l).length = 24 * l.length
 | [] => rfl
 | x :: r => by
   have := length_encTxs r
   simp only [encTxs, encTx, List.flatMap_cons, List.length_append, length_encNums, List.length_cons, List.length_nil] at this ⊢
   omega
theorem length_encDts : ∀ l, (encDts l).length = 16 * l.length
 | [] => rfl
 | x :: r => by
   have := length_encDts r
   simp only [encDts, encDt, List.flatMap_cons, List.length_append, length_encNums, List.length_cons, List.length_nil] at this ⊢
   omega
def Rc.head (R : Rc) : List Int := [R.kind, R.txn, R.prev, R.next, R.page, R.off]
def encBytes (b : List UInt8) : List UInt8 := num b.length ++ b
def Rc.body (R : Rc) : List UInt8 :=
 encNums R.head ++ (encBytes R.before ++ (encBytes R.after ++ (num R.txns.length ++ (encTxs R.txns ++ (num R.dirty.length ++ (encDts R.dirty ++ num R.count))))))
def Rc.size (R : Rc) : Nat := 96 + R.before.length + R.after.length + 24 * R.txns.length + 16 * R.dirty.length
theorem length_body (R : Rc) : R.body.length = R.size - 8 := by
 simp only [Rc.body, Rc.size, Rc.head, encBytes, List.length_append, length_num, length_encNums, length_encTxs, length_encDts, List.length_cons, List.length_nil]
 omega
def Rc.enc (R : Rc) : List UInt8 := num R.body.length ++ R.body
theorem length_enc (R : Rc) : R.enc.length = R.size := by
 rw [Rc.enc, List.length_append, length_num, length_body]
 simp only [Rc.size]
 omega

def getNum (r : List UInt8) : Option (Int × List UInt8) :=
 if r.length < 8 then none else if 4611686018427387904 < beval (r.take 8) then none else some (((beval (r.take 8) : Nat) : Int), r.drop 8)
def getPiece (r : List UInt8) : Option (List UInt8 × List UInt8) :=
 match getNum r with
 | none => none
 | some (n, r') => if (r'.length : Int) < n then none else some (r'.take n.toNat, r'.drop n.toNat)
def getNums : Nat → List UInt8 → Option (List Int × List UInt8)
 | 0, r => some ([], r)
 | k + 1, r => match getNum r with
   | none => none
   | some (n, r') => match getNums k r' with
     | none => none
     | some (l, r'') => some (n :: l, r'')
def getTx (r : List UInt8) : Option ((Int × Int × Int) × List UInt8) :=
 match getNums 3 r with
 | some ([a, b, c], r') => some ((a, b, c), r')
 | _ => none
def getDt (r : List UInt8) : Option ((Int × Int) × List UInt8) :=
 match getNums 2 r with
 | some ([a, b], r') => some ((a, b), r')
 | _ => none
def getMany {α : Type} (f : List UInt8 → Option (α × List UInt8)) : Nat → List UInt8 → Option (List α × List UInt8)
 | 0, r => some ([], r)
 | k + 1, r => match f r with
   | none => none
   | some (x, r') => match getMany f k r' with
     | none => none
     | some (l, r'') => some (x :: l, r'')
def getList {α : Type} (f : List UInt8 → Option (α × List UInt8)) (r : List UInt8) : Option (List α × List UInt8) :=
 match getNum r with
 | none => none
 | some (n, r') => getMany f n.toNat r'
def atCount (R : Rc) (r : List UInt8) : Option Rc :=
 match getNum r with
 | none => none
 | some (n, r') => if r' = [] then some { R with count := n } else none
def atDirty (R : Rc) (r : List UInt8) : Option Rc :=
 match getList getDt r with
 | none => none
 | some (l, r') => atCount { R with dirty := l } r'
def atTxns (R : Rc) (r : List UInt8) : Option Rc :=
 match getList getTx r with
 | none => none
 | some (l, r') => atDirty { R with txns := l } r'
def atAfter (R : Rc) (r : List UInt8) : Option Rc :=
 match getPiece r with
 | none => none
 | some (p, r') => atTxns { R with after := p } r'
def atBefore (R : Rc) (r : List UInt8) : Option Rc :=
 match getPiece r with
 | none => none
 | some (p, r') => atAfter { R with before := p } r'
def Rc.ofHead : List Int → Rc
 | [a, b, c, d, e, f] => ⟨a, b, c, d, e, f, [], [], [], [], 0⟩
 | _ => Rc.zero
def atHead (r : List UInt8) : Option Rc :=
 match getNums 6 r with
 | none => none
 | some (l, r') => atBefore (Rc.ofHead l) r'
def dec (b : List UInt8) : Option Rc :=
 match getPiece b with
 | none => none
 | some (own, _) => atHead own

theorem getNum_len {r r' : List UInt8} {n : Int} (h : getNum r = some (n, r')) : r.length = 8 + r'.length ∧ 0 ≤ n ∧ n ≤ 4611686018427387904 ∧ r' = r.drop 8 := by
 unfold getNum at h
 split at h
 · cases h
 · split at h
   · cases h
   · simp only [Option.some.injEq, Prod.mk.injEq] at h
     obtain ⟨rfl, rfl⟩ := h
     refine ⟨by rw [List.length_drop]; omega, by omega, by omega, rfl⟩
theorem getNums_len : ∀ (k : Nat) {r r' : List UInt8} {l : List Int}, getNums k r = some (l, r') → r.length = 8 * k + r'.length ∧ l.length = k
 | 0, r, r', l, h => by
   simp only [getNums, Option.some.injEq, Prod.mk.injEq] at h
   obtain ⟨rfl, rfl⟩ := h
   simp
 | k + 1, r, r', l, h => by
   simp only [getNums] at h
   split at h
   · cases h
   · rename_i n r1 h1
     split at h
     · cases h
     · rename_i l2 r2 h2
       simp only [Option.some.injEq, Prod.mk.injEq] at h
       obtain ⟨rfl, rfl⟩ := h
       have e1 := getNum_len h1
       have e2 := getNums_len k h2
       simp only [List.length_cons]
       omega
theorem getTx_len {r r' : List UInt8} {x : Int × Int × Int} (h : getTx r = some (x, r')) : r.length = 24 + r'.length := by
 unfold getTx at h
 split at h
 · rename_i a b c r1 h1
   simp only [Option.some.injEq, Prod.mk.injEq] at h
   obtain ⟨_, rfl⟩ := h
   have := getNums_len 3 h1
   omega
 · cases h
theorem getDt_len {r r' : List UInt8} {x : Int × Int} (h : getDt r = some (x, r')) : r.length = 16 + r'.length := by
 unfold getDt at h
 split at h
 · rename_i a b r1 h1
   simp only [Option.some.injEq, Prod.mk.injEq] at h
   obtain ⟨_, rfl⟩ := h
   have := getNums_len 2 h1
   omega
 · cases h
theorem getMany_len {α : Type} {f : List UInt8 → Option (α × List UInt8)} {m : Nat} (hf : ∀ r x r', f r = some (x, r') → r.length = m + r'.length) : ∀ (k : Nat) {r r' : List UInt8} {l : List α}, getMany f k r = some (l, r') → r.length = m * k + r'.length ∧ l.length = k
 | 0, r, r', l, h => by
   simp only [getMany, Option.some.injEq, Prod.mk.injEq] at h
   obtain ⟨rfl, rfl⟩ := h
   simp
 | k + 1, r, r', l, h => by
   simp only [getMany] at h
   split at h
   · cases h
   · rename_i x r1 h1
     split at h
     · cases h
     · rename_i l2 r2 h2
       simp only [Option.some.injEq, Prod.mk.injEq] at h
       obtain ⟨rfl, rfl⟩ := h
       have e1 := hf _ _ _ h1
       have e2 := getMany_len hf k h2
       rw [List.length_cons, Nat.mul_add]
       omega
theorem getList_len {α : Type} {f : List UInt8 → Option (α × List UInt8)} {m : Nat} (hf : ∀ r x r', f r = some (x, r') → r.length = m + r'.length) {r r' : List UInt8} {l : List α} (h : getList f r = some (l, r')) : r.length = 8 + m * l.length + r'.length := by
 unfold getList at h
 split at h
 · cases h
 · rename_i n r1 h1
   have e1 := getNum_len h1
   have e2 := getMany_len hf _ h
   rw [e2.2]
   omega
theorem getPiece_len {r r' p : List UInt8} (h : getPiece r = some (p, r')) : r.length = 8 + p.length + r'.length := by
 unfold getPiece at h
 split at h
 · cases h
 · rename_i n r1 h1
   have e1 := getNum_len h1
   split at h
   · cases h
   · simp only [Option.some.injEq, Prod.mk.injEq] at h
     obtain ⟨rfl, rfl⟩ := h
     simp only [List.length_take, List.length_drop]
     omega
theorem dec_size {b : List UInt8} {R : Rc} (h : dec b = some R) : ∃ own r, getPiece b = some (own, r) ∧ 8 + own.length = R.size := by
 unfold dec at h
 split at h
 · cases h
 · rename_i own r0 h0
   refine ⟨own, r0, h0, ?_⟩
   unfold atHead at h
   split at h
   · cases h
   · rename_i l r1 h1
     have e1 := getNums_len 6 h1
     have ez : (Rc.ofHead l).before = [] ∧ (Rc.ofHead l).after = [] := by
      unfold Rc.ofHead; split <;> exact ⟨rfl, rfl⟩
     unfold atBefore at h
     split at h
     · cases h
     · rename_i p2 r2 h2
       have e2 := getPiece_len h2
       unfold atAfter at h
       split at h
       · cases h
       · rename_i p3 r3 h3
         have e3 := getPiece_len h3
         unfold atTxns at h
         split at h
         · cases h
         · rename_i p4 r4 h4
           have e4 := getList_len (fun _ _ _ => getTx_len) h4
           unfold atDirty at h
           split at h
           · cases h
           · rename_i p5 r5 h5
             have e5 := getList_len (fun _ _ _ => getDt_len) h5
             unfold atCount at h
             split at h
             · cases h
             · rename_i n r6 h6
               have e6 := getNum_len h6
               split at h
               · rename_i h7
                 rw [h7] at e6
                 simp only [Option.some.injEq] at h
                 subst h
                 simp only [Rc.size, List.length_nil] at e6 ⊢
                 omega
               · cases h
theorem dec_le {b : List UInt8} {R : Rc} (h : dec b = some R) : R.size ≤ b.length := by
 obtain ⟨own, r, h1, h2⟩ := dec_size h
 have := getPiece_len h1
 omega

def fits (x : Int) : Prop := 0 ≤ x ∧ x ≤ 4611686018427387904
theorem getNum_num (x : Int) (h : fits x) (r : List UInt8) : getNum (num x ++ r) = some (x, r) := by
 have h8 : (num x ++ r).take 8 = num x := by rw [List.take_append_of_le_length (by rw [length_num]; exact Nat.le_refl _), List.take_of_length_le (by rw [length_num]; exact Nat.le_refl _)]
 have hd : (num x ++ r).drop 8 = r := by rw [List.drop_append_of_le_length (by rw [length_num]; exact Nat.le_refl _), List.drop_of_length_le (by rw [length_num]; exact Nat.le_refl _), List.nil_append]
 have hb : beval (num x) = x.toNat := beval_be8 _ (by have := h.2; omega)
 unfold getNum
 rw [h8, hd, hb, if_neg (by rw [List.length_append, length_num]; omega), if_neg (by have := h.2; omega)]
 congr 2
 have := h.1
 omega
theorem getNums_enc : ∀ (l : List Int), (∀ x ∈ l, fits x) → ∀ r, getNums l.length (encNums l ++ r) = some (l, r)
 | [], _, r => rfl
 | x :: l, h, r => by
   have ih := getNums_enc l (fun y hy => h y (List.mem_cons_of_mem _ hy)) r
   have e : encNums (x :: l) ++ r = num x ++ (encNums l ++ r) := by simp [encNums]
   rw [List.length_cons, e]
   simp only [getNums, getNum_num x (h x (by simp)), ih]
theorem getTx_enc (t : Int × Int × Int) (h : fits t.1 ∧ fits t.2.1 ∧ fits t.2.2) (r : List UInt8) : getTx (encTx t ++ r) = some (t, r) := by
 have := getNums_enc [t.1, t.2.1, t.2.2] (fun x hx => by simp at hx; rcases hx with rfl | rfl | rfl; exact h.1; exact h.2.1; exact h.2.2) r
 simp only [List.length_cons, List.length_nil] at this
 unfold getTx encTx
 rw [this]
theorem getDt_enc (t : Int × Int) (h : fits t.1 ∧ fits t.2) (r : List UInt8) : getDt (encDt t ++ r) = some (t, r) := by
 have := getNums_enc [t.1, t.2] (fun x hx => by simp at hx; rcases hx with rfl | rfl; exact h.1; exact h.2) r
 simp only [List.length_cons, List.length_nil] at this
 unfold getDt encDt
 rw [this]
theorem getMany_enc {α : Type} {f : List UInt8 → Option (α × List UInt8)} {g : α → List UInt8} {p : α → Prop} (hf : ∀ x, p x → ∀ r, f (g x ++ r) = some (x, r)) : ∀ (l : List α), (∀ x ∈ l, p x) → ∀ r, getMany f l.length (l.flatMap g ++ r) = some (l, r)
 | [], _, r => rfl
 | x :: l, h, r => by
   have ih := getMany_enc hf l (fun y hy => h y (List.mem_cons_of_mem _ hy)) r
   have e : (x :: l).flatMap g ++ r = g x ++ (l.flatMap g ++ r) := by simp
   rw [List.length_cons, e]
   simp only [getMany, hf x (h x (by simp)), ih]
theorem getList_enc {α : Type} {f : List UInt8 → Option (α × List UInt8)} {g : α → List UInt8} {p : α → Prop} (hf : ∀ x, p x → ∀ r, f (g x ++ r) = some (x, r)) (l : List α) (hp : ∀ x ∈ l, p x) (hl : l.length ≤ 4611686018427387904) (r : List UInt8) :
 getList f (num l.length ++ (l.flatMap g ++ r)) = some (l, r) := by
 unfold getList
 rw [getNum_num _ ⟨by omega, by omega⟩]
 simp only [Int.toNat_natCast]
 exact getMany_enc hf l hp r
theorem getPiece_enc (p : List UInt8) (hl : p.length ≤ 4611686018427387904) (r : List UInt8) : getPiece (encBytes p ++ r) = some (p, r) := by
 unfold getPiece encBytes
 rw [List.append_assoc, getNum_num _ ⟨by omega, by omega⟩]
 simp only [List.length_append, Int.toNat_natCast]
 rw [if_neg (by omega), List.take_append_of_le_length (Nat.le_refl _), List.take_of_length_le (Nat.le_refl _), List.drop_append_of_le_length (Nat.le_refl _), List.drop_of_length_le (Nat.le_refl _), List.nil_append]
structure Rc.good (R : Rc) : Prop where
 head : ∀ x ∈ R.head, fits x
 txns : ∀ t ∈ R.txns, fits t.1 ∧ fits t.2.1 ∧ fits t.2.2
 dirty : ∀ t ∈ R.dirty, fits t.1 ∧ fits t.2
 count : fits R.count
theorem dec_enc (R : Rc) (h : R.good) (hs : R.size ≤ 4611686018427387904) (more : List UInt8) : dec (R.enc ++ more) = some R := by
 have hs' : 96 + R.before.length + R.after.length + 24 * R.txns.length + 16 * R.dirty.length ≤ 4611686018427387904 := hs
 unfold dec
 have e0 : R.enc = encBytes R.body := rfl
 rw [e0, getPiece_enc _ (by rw [length_body]; omega)]
 simp only [atHead, Rc.body]
 have e1 := getNums_enc R.head h.head
 simp only [Rc.head, List.length_cons, List.length_nil] at e1
 simp only [Rc.head, e1, Rc.ofHead, atBefore]
 rw [getPiece_enc _ (by omega)]
 simp only [atAfter]
 rw [getPiece_enc _ (by omega)]
 simp only [atTxns, encTxs]
 rw [getList_enc (p := fun t => fits t.1 ∧ fits t.2.1 ∧ fits t.2.2) getTx_enc _ h.txns (by omega)]
 simp only [atDirty, encDts]
 rw [getList_enc (p := fun t => fits t.1 ∧ fits t.2) getDt_enc _ h.dirty (by omega)]
 simp only [atCount]
 have e6 := getNum_num R.count h.count []
 rw [List.append_nil] at e6
 simp only [e6, if_true]
end Go.Proofs.YteeembildppgmaaGreat.Enc
